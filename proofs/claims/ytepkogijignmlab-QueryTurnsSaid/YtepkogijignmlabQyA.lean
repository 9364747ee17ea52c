/- query.nearest. -/
import Derived.Test.YtepkogijignmlabQyM
import Derived.Test.YtepkogijignmlabCbG
namespace Go.Proofs.Ytepkogijignmlab.Qy
open Go.RowKit Go.Extern Go.Shelf Hi Cb

attribute [local go_sem] Oper.semAt_some

/-- what is seen, in memory. -/
def HasSn (w : World) (lv : Value) (X : List Sn) : Prop :=
  ∃ ao cap, lv = .slice ao X.length cap ∧ X.length ≤ cap ∧ ∀ (j : Nat) (x : Sn), X[j]? = some x → ∃ b off, ao = some ⟨b, off, none⟩ ∧ b < w.heap.size ∧ w.cell? ⟨b, off + j * 3, none⟩ = some (.int .i64 (x.1 : Int)) ∧ w.cell? ⟨b, off + j * 3 + 1, none⟩ = some (.int .u64 x.2.1) ∧ w.cell? ⟨b, off + j * 3 + 2, none⟩ = some (.bool x.2.2)
theorem HasSn.keep {w w' : World} {lv : Value} {X : List Sn} (h : HasSn w lv X) (hb : Below w.heap.size w w') : HasSn w' lv X := by
  obtain ⟨ao, cap, e, hcap, hc⟩ := h
  refine ⟨ao, cap, e, hcap, fun j a hj => ?_⟩
  obtain ⟨b, off, ea, hl, h0, h1, h2⟩ := hc j a hj
  exact ⟨b, off, ea, Nat.lt_of_lt_of_le hl hb.size, (hb.cell (p := ⟨b, _, none⟩) hl).trans h0, (hb.cell (p := ⟨b, _, none⟩) hl).trans h1, (hb.cell (p := ⟨b, _, none⟩) hl).trans h2⟩
theorem sn_of_own {w : World} {B : Nat} {mo : Option Addr} {mc : Nat} {X : List Sn} (h : w.ownsRow B 91 3 (.slice mo X.length mc) X.length (snv X)) : HasSn w (.slice mo X.length mc) X := by
  rcases h.2 with ⟨e, h0⟩ | ⟨g, cap, cur, e, _, hh, hcap, _⟩
  · injection e with e1 _ e3
    obtain rfl : X = [] := List.eq_nil_of_length_eq_zero h0
    exact ⟨mo, mc, rfl, Nat.zero_le _, fun j x hj => by simp at hj⟩
  · injection e with e1 _ e3
    subst e1 e3
    refine ⟨_, mc, rfl, hcap, fun j x hj => ⟨g, 0, rfl, some_lt hh, ?_⟩⟩
    have hjl := (List.getElem?_eq_some_iff.1 hj).1
    obtain ⟨s0, s1, s2⟩ := snv_get X j x hj
    rw [Nat.zero_add]
    exact ⟨(h.cellAt (j * 3) (by omega)).trans s0, (h.cellAt (j * 3 + 1) (by omega)).trans s1, (h.cellAt (j * 3 + 2) (by omega)).trans s2⟩
theorem sn_nil (w : World) (mo : Option Addr) (mc : Nat) : HasSn w (.slice mo 0 mc) [] := ⟨mo, mc, rfl, Nat.zero_le _, fun j x hj => by simp at hj⟩
theorem Try.elemSn : Try.prog.underlying 70 = some (.slice (Try.prog.elem 70)) := by kernel_rfl
theorem Try.sizeSn (w : World) : (sizeOf (Try.prog.elem 70)).run Try.prog w = .ok 3 w := by kernel_rfl
/-- all but the first. -/
theorem cut_sn (lo : Option Addr) (n cap : Nat) (hj : n + 1 ≤ cap) : ∃ so, (0 < n → ∀ b off, lo = some ⟨b, off, none⟩ → so = some ⟨b, off + 3, none⟩) ∧ ∀ w, (Instr.slice 70 (.slice lo (n + 1) cap) (some (.int .i64 1)) none none).run Try.prog w = .ok (.slice so n (cap - 1)) w := by
  refine ⟨if cap = 1 then lo else lo.map (·.add (1 * 3)), fun h b off e => ?_, fun w => ?_⟩
  · rw [if_neg (by omega), e]
    simp [Addr.add]
  · rw [run_slice_l (ht := Try.elemSn) (h0 := by omega) (h1 := by omega), Try.sizeSn]
    simp only [Result.andThen_ok, sliced]
    rfl
theorem sn_tail {w : World} {lo so : Option Addr} {cap : Nat} {x : Sn} {X : List Sn} (h : HasSn w (.slice lo (x :: X).length cap) (x :: X)) (hso : 0 < X.length → ∀ b off, lo = some ⟨b, off, none⟩ → so = some ⟨b, off + 3, none⟩) : HasSn w (.slice so X.length (cap - 1)) X := by
  obtain ⟨ao, cap', e, hcap, hc⟩ := h
  injection e with e1 e2 e3
  subst e1 e3
  refine ⟨so, cap - 1, rfl, by simp at hcap; omega, fun j y hj => ?_⟩
  have hjl := (List.getElem?_eq_some_iff.1 hj).1
  obtain ⟨b, off, ea, hl, h0, h1, h2⟩ := hc (j + 1) y (by simpa using hj)
  refine ⟨b, off + 3, hso (by omega) b off ea, hl, ?_, ?_, ?_⟩
  · rw [show off + 3 + j * 3 = off + (j + 1) * 3 by omega]; exact h0
  · rw [show off + 3 + j * 3 + 1 = off + (j + 1) * 3 + 1 by omega]; exact h1
  · rw [show off + 3 + j * 3 + 2 = off + (j + 1) * 3 + 2 by omega]; exact h2
theorem HasSn.cap {w : World} {ao : Option Addr} {n cap : Nat} {X : List Sn} (h : HasSn w (.slice ao n cap) X) : n ≤ cap := by
  obtain ⟨_, _, e, h, _⟩ := h
  injection e with _ e1 e2
  omega
theorem HasSn.at {w : World} {ao : Option Addr} {n cap : Nat} {X : List Sn} (h : HasSn w (.slice ao n cap) X) {j : Nat} {x : Sn} (hj : X[j]? = some x) :
    ∃ b off, ao = some ⟨b, off, none⟩ ∧ b < w.heap.size ∧ w.cell? ⟨b, off + j * 3, none⟩ = some (.int .i64 (x.1 : Int)) ∧ w.cell? ⟨b, off + j * 3 + 1, none⟩ = some (.int .u64 x.2.1) ∧ w.cell? ⟨b, off + j * 3 + 2, none⟩ = some (.bool x.2.2) := by
  obtain ⟨ao', cap', e, _, hc⟩ := h
  injection e with e1 e2 e3
  subst e1
  exact hc j x hj
/-- the best meeting, in cells. -/
def bestC : Option (Nat × Int) → Array Value
  | none => #[.int .i64 0, .int .u64 0]
  | some (r, d) => #[.int .i64 (r : Int), .int .u64 d]
def lenV : Value → Nat
  | .slice _ n _ => n
  | _ => 0
/-- while the lists are held against one another. -/
structure NI (w : World) (z : Nat) (p0 q0 : List Sn) (uo uc : _) (dv dc : _) (p q : List Sn) (b : Option (Nat × Int)) (wr : World) : Prop where
  up : ∀ wx, Below w.heap.size w wx → HasSn wx (.slice uo p.length uc) p
  dn : ∀ wx, Below w.heap.size w wx → HasSn wx (.slice dv q.length dc) q
  bel : Below w.heap.size w wr
  bz : wr.heap[z]? = some (.cells #[.int .i64 0, .int .u64 0] 52)
  by_ : wr.heap[z + 1]? = some (.cells (bestC b) 52)
  ran : ∃ f, p.length + q.length ≤ f ∧ nearG f b p q = near p0 q0
  pp : ∀ x ∈ p, 0 ≤ x.2.1 ∧ x.2.1 < 9223372036854775808
  pq : ∀ x ∈ q, 0 ≤ x.2.1 ∧ x.2.1 < 9223372036854775808

theorem ni_ran {b : Option (Nat × Int)} {x y : Sn} {p q : List Sn} {R : Option (Nat × Int)} (h : ∃ f, (x :: p).length + (y :: q).length ≤ f ∧ nearG f b (x :: p) (y :: q) = R) : ∃ f, (if x.1 ≤ y.1 then p else x :: p).length + (if y.1 ≤ x.1 then q else y :: q).length ≤ f ∧ nearG f (bst b x y) (if x.1 ≤ y.1 then p else x :: p) (if y.1 ≤ x.1 then q else y :: q) = R := by
  obtain ⟨f, hf, e⟩ := h
  obtain ⟨g, rfl⟩ : ∃ g, f = g + 1 := ⟨f - 1, by simp at hf; omega⟩
  refine ⟨g, ?_, by rw [nearG] at e; exact e⟩
  simp at hf
  rcases Nat.lt_trichotomy x.1 y.1 with h1 | h1 | h1
  · rw [if_pos (by omega), if_neg (by omega)]; simp; omega
  · rw [if_pos (by omega), if_pos (by omega)]; omega
  · rw [if_neg (by omega), if_pos (by omega)]; simp; omega
theorem near_res {W : World} {z : Nat} {x0 x1 u : Value} {tmps : Array Value} (h1 : W.heap[z]? = some (.cells #[x0, x1] 52)) (t6 : tmps[4]?.getD undef = .pointer (some ⟨z, 0, none⟩)) (t7 : tmps[5]?.getD undef = u) :
    (results Try.f28 tmps).run Try.prog W = .ok (.tuple #[.agg #[x0, x1], u]) W := by
  have c0 : W.cell? ⟨z, 0, none⟩ = some x0 := by simp [World.cell?, h1]
  have c1 : W.cell? ⟨z, 1, none⟩ = some x1 := by simp [World.cell?, h1]
  simp [results, Try.results28, go_sem, t6, t7, c0, c1]
theorem set_two {W : World} {b : Nat} {p q : Value} {T : TypeId} (h : W.heap[b]? = some (.cells #[p, q] T)) (x y : Value) : ((W.setCell ⟨b, 0, none⟩ x).setCell ⟨b, 1, none⟩ y).heap[b]? = some (.cells #[x, y] T) := by
  have hlt := some_lt h
  simp only [World.setCell, Array.getElem?_modify]
  simp [h]
theorem two_cells {w : World} {b : Nat} {T : TypeId} {a0 a1 : Value} (h : w.heap[b]? = some (.cells #[a0, a1] T)) : (w.cell? ⟨b, 0, none⟩ = some a0 ∧ w.cell? ⟨b, 1, none⟩ = some a1) ∧ w.frozen? ⟨b, 0, none⟩ = false ∧ w.frozen? ⟨b, 1, none⟩ = false := by simp [World.cell?, World.frozen?, h]
theorem two_far (W : World) (b k : Nat) (hk : k ≠ b) (x y : Value) : ((W.setCell ⟨b, 0, none⟩ x).setCell ⟨b, 1, none⟩ y).heap[k]? = W.heap[k]? := (Below.heap_setCell _ _ _ _ hk).trans (Below.heap_setCell _ _ _ _ hk)
variable {w : World} {z : Nat} {p0 q0 : List Sn} {uo dv : Option Addr} {uc dc : Nat} {b : Option (Nat × Int)} {wr W5 : World}
/-- a meeting is stored. -/
theorem NI.best {p q : List Sn} (hz : w.heap.size = z) (h : NI w z p0 q0 uo uc dv dc p q b wr) {a0 a1 : Value} (hb : bestC b = #[a0, a1]) (r : Nat) (d : Int) : ((wr.setCell ⟨z + 1, 0, none⟩ (.int .i64 (r : Int))).setCell ⟨z + 1, 1, none⟩ (.int .u64 d)).heap[z + 1]? = some (.cells (bestC (some (r, d))) 52) ∧ ((wr.setCell ⟨z + 1, 0, none⟩ (.int .i64 (r : Int))).setCell ⟨z + 1, 1, none⟩ (.int .u64 d)).heap[z]? = some (.cells #[.int .i64 0, .int .u64 0] 52) ∧ Below w.heap.size w ((wr.setCell ⟨z + 1, 0, none⟩ (.int .i64 (r : Int))).setCell ⟨z + 1, 1, none⟩ (.int .u64 d)) := by
  have g := h.by_
  rw [hb] at g
  exact ⟨set_two g _ _, (two_far wr (z + 1) z (by omega) _ _).trans h.bz, (h.bel.setCell (p := ⟨z + 1, 0, none⟩) (by show w.heap.size ≤ z + 1; omega) _).setCell (p := ⟨z + 1, 1, none⟩) (by show w.heap.size ≤ z + 1; omega) _⟩
theorem NI.below {p q : List Sn} (h : NI w z p0 q0 uo uc dv dc p q b wr) (hb : Below wr.heap.size wr W5) : NI w z p0 q0 uo uc dv dc p q b W5 :=
  ⟨h.up, h.dn, h.bel.trans (hb.mono h.bel.size), (hb.block _ (some_lt h.bz)).trans h.bz, (hb.block _ (some_lt h.by_)).trans h.by_, h.ran, h.pp, h.pq⟩
theorem bestC_two (b : Option (Nat × Int)) : ∃ a0 a1, bestC b = #[a0, a1] := by
  cases b with
  | none => exact ⟨_, _, rfl⟩
  | some rd => obtain ⟨r, d⟩ := rd; exact ⟨_, _, rfl⟩
/-- one step: the up list goes on. -/
theorem NI.left {xr yr : Nat} {xd yd : Int} {xb yb : Bool} {p q : List Sn} {su : Option Addr} (h : NI w z p0 q0 uo uc dv dc ((xr, xd, xb) :: p) ((yr, yd, yb) :: q) b wr) (hlt : xr < yr) (hu : ∀ wx, Below w.heap.size w wx → HasSn wx (.slice su p.length (uc - 1)) p) : NI w z p0 q0 su (uc - 1) dv dc p ((yr, yd, yb) :: q) b wr := by
  have g := ni_ran h.ran
  rw [if_pos (by show xr ≤ yr; omega), if_neg (by show ¬ yr ≤ xr; omega)] at g
  have e : bst b (xr, xd, xb) (yr, yd, yb) = b := by unfold bst; rw [if_neg (by show ¬ xr = yr; omega)]
  rw [e] at g
  exact ⟨hu, h.dn, h.bel, h.bz, h.by_, g, fun x hx => h.pp x (List.mem_cons_of_mem _ hx), h.pq⟩
theorem NI.right {xr yr : Nat} {xd yd : Int} {xb yb : Bool} {p q : List Sn} {sd : Option Addr} (h : NI w z p0 q0 uo uc dv dc ((xr, xd, xb) :: p) ((yr, yd, yb) :: q) b wr) (hlt : yr < xr) (hd : ∀ wx, Below w.heap.size w wx → HasSn wx (.slice sd q.length (dc - 1)) q) : NI w z p0 q0 uo uc sd (dc - 1) ((xr, xd, xb) :: p) q b wr := by
  have g := ni_ran h.ran
  rw [if_neg (by show ¬ xr ≤ yr; omega), if_pos (by show yr ≤ xr; omega)] at g
  have e : bst b (xr, xd, xb) (yr, yd, yb) = b := by unfold bst; rw [if_neg (by show ¬ xr = yr; omega)]
  rw [e] at g
  exact ⟨h.up, hd, h.bel, h.bz, h.by_, g, h.pp, fun x hx => h.pq x (List.mem_cons_of_mem _ hx)⟩
theorem NI.both {xr : Nat} {xd yd : Int} {xb yb : Bool} {p q : List Sn} {su sd : Option Addr} (h : NI w z p0 q0 uo uc dv dc ((xr, xd, xb) :: p) ((xr, yd, yb) :: q) b wr) (hu : ∀ wx, Below w.heap.size w wx → HasSn wx (.slice su p.length (uc - 1)) p) (hd : ∀ wx, Below w.heap.size w wx → HasSn wx (.slice sd q.length (dc - 1)) q) {b' : Option (Nat × Int)} (hb' : bst b (xr, xd, xb) (xr, yd, yb) = b') {W6 : World} (hbel : Below w.heap.size w W6) (hbz : W6.heap[z]? = some (.cells #[.int .i64 0, .int .u64 0] 52)) (hby : W6.heap[z + 1]? = some (.cells (bestC b') 52)) : NI w z p0 q0 su (uc - 1) sd (dc - 1) p q b' W6 := by
  have g := ni_ran h.ran
  rw [if_pos (by show xr ≤ xr; omega), if_pos (by show xr ≤ xr; omega), hb'] at g
  exact ⟨hu, hd, hbel, hbz, hby, g, fun x hx => h.pp x (List.mem_cons_of_mem _ hx), fun x hx => h.pq x (List.mem_cons_of_mem _ hx)⟩

set_option maxRecDepth 100000 in
set_option maxHeartbeats 8000000 in
theorem nearest_calls (uo : Option Addr) (uc : Nat) (dv : Option Addr) (dc : Nat) (p0 q0 : List Sn) (w : World) (hu : HasSn w (.slice uo p0.length uc) p0) (hd : HasSn w (.slice dv q0.length dc) q0) (hp : ∀ x ∈ p0, 0 ≤ x.2.1 ∧ x.2.1 < 9223372036854775808) (hq : ∀ x ∈ q0, 0 ≤ x.2.1 ∧ x.2.1 < 9223372036854775808) (hpl : p0.length ≤ 65536) (hql : q0.length ≤ 65536) :
    Calls Try.prog 28 #[.slice uo p0.length uc, .slice dv q0.length dc] w fun e w' => Below w.heap.size w w' ∧ ((near p0 q0 = none ∧ ∃ T x, e = .returned (.tuple #[.agg #[.int .i64 0, .int .u64 0], .iface T x])) ∨ ∃ (r : Nat) (d : Int), near p0 q0 = some (r, d) ∧ e = .returned (.tuple #[.agg #[.int .i64 (r : Int), .int .u64 d], .nilIface])) := by
  obtain ⟨z, hz⟩ : ∃ z, w.heap.size = z := ⟨_, rfl⟩
  obtain ⟨W0, hW0⟩ : ∃ W0, (w.alloc (.cells #[.int .i64 0, .int .u64 0] 52)).alloc (.cells #[.int .i64 0, .int .u64 0] 52) = W0 := ⟨_, rfl⟩
  have hB0 : Below w.heap.size w W0 := by rw [← hW0]; exact ((Below.refl _ w).alloc (Nat.le_refl _) _).alloc (by simp) _
  have h0 : W0.heap[z]? = some (.cells #[.int .i64 0, .int .u64 0] 52) := by
    rw [← hW0, ← hz]; exact (Below.heap_alloc _ _ _ (by simp)).trans (heap_newW _ _)
  have h1 : W0.heap[z + 1]? = some (.cells #[.int .i64 0, .int .u64 0] 52) := by
    have g := heap_newW (w.alloc (.cells #[.int .i64 0, .int .u64 0] 52)) (.cells #[.int .i64 0, .int .u64 0] 52)
    rw [World.size_alloc, hW0, hz] at g
    exact g
  have HN0 : Hid (NI w z p0 q0 uo uc dv dc p0 q0 none W0) := ⟨fun wx hx => hu.keep hx, fun wx hx => hd.keep hx, hB0, h0, h1, ⟨p0.length + q0.length, Nat.le_refl _, rfl⟩, hp, hq⟩
  have HW0 : Hid ((w.alloc (.cells #[.int .i64 0, .int .u64 0] 52)).alloc (.cells #[.int .i64 0, .int .u64 0] 52) = W0) := hW0
  have HZ : Hid (w.heap.size = z) := hz
  clear hW0 hB0 h0 h1 hu hd hp hq
  go_enter Try.func28, Try.ntmps28
  go_upto_region 2 with fail
  rw [HW0.out]
  go_wp2_with fail
  go_loopw [0, 1, 7] (fun uv qv fv wr => ∃ (uo : Option Addr) (uc : Nat) (dv : Option Addr) (dc : Nat) (p q : List Sn) (b : Option (Nat × Int)), uv = .slice uo p.length uc ∧ qv = .slice dv q.length dc ∧ fv = .bool b.isSome ∧ p.length ≤ 65536 ∧ q.length ≤ 65536 ∧ Hid (NI w z p0 q0 uo uc dv dc p q b wr)) (fun uv qv _ _ => lenV uv + lenV qv)
  case atStart => exact ⟨uo, uc, dv, dc, p0, q0, none, rfl, rfl, rfl, hpl, hql, HN0.out⟩
  case round =>
    obtain ⟨uo, uc, dv, dc, p, q, b, rfl, rfl, rfl, hpl, hql, HN⟩ := hrel
    by_cases hemp : p = [] ∨ q = []
    · obtain ⟨f, _, hf⟩ := HN.out.ran
      rw [nearG_nil f b p q hemp] at hf
      have HR : Hid (b = near p0 q0) := hf
      obtain ⟨P, hP⟩ : ∃ P, p.length = P := ⟨_, rfl⟩
      obtain ⟨Q, hQ⟩ : ∃ Q, q.length = Q := ⟨_, rfl⟩
      have hg : (decide ((P : Int) > 0) = false ∧ decide (0 < P) = false) ∨ ((decide ((P : Int) > 0) = true ∧ decide (0 < P) = true) ∧ decide ((Q : Int) > 0) = false ∧ decide (0 < Q) = false) := by
        have h0 : P = 0 ∨ Q = 0 := by
          rcases hemp with rfl | rfl
          · exact Or.inl hP.symm
          · exact Or.inr hQ.symm
        by_cases h1 : P = 0
        · exact Or.inl ⟨decide_eq_false (by omega), decide_eq_false (by omega)⟩
        · exact Or.inr ⟨⟨decide_eq_true (by omega), decide_eq_true (by omega)⟩, decide_eq_false (by omega), decide_eq_false (by omega)⟩
      rw [hP, hQ]
      obtain ⟨⟨c0, c1⟩, f0, f1⟩ := two_cells HN.out.bz
      clear hf hemp
      cases b with
      | none =>
        rcases hg with ⟨i1, i1'⟩ | ⟨⟨i1, i1'⟩, i2, i2'⟩
        all_goals
          go_wp2
          exact bodyPost_ret (near_res (set_two HN.out.bz _ _) rfl rfl) rfl ⟨(HN.out.bel.setCell (p := ⟨z, 0, none⟩) (by show w.heap.size ≤ z; omega) _).setCell (p := ⟨z, 1, none⟩) (by show w.heap.size ≤ z; omega) _, Or.inl ⟨HR.out.symm, _, _, rfl⟩⟩
      | some rd =>
        obtain ⟨r, d⟩ := rd
        have hby : wr.heap[z + 1]? = some (.cells #[.int .i64 (r : Int), .int .u64 d] 52) := HN.out.by_
        obtain ⟨⟨d0, d1⟩, _, _⟩ := two_cells hby
        clear hby
        rcases hg with ⟨i1, i1'⟩ | ⟨⟨i1, i1'⟩, i2, i2'⟩
        all_goals
          go_wp2
          exact bodyPost_ret (near_res (set_two HN.out.bz _ _) rfl rfl) rfl ⟨(HN.out.bel.setCell (p := ⟨z, 0, none⟩) (by show w.heap.size ≤ z; omega) _).setCell (p := ⟨z, 1, none⟩) (by show w.heap.size ≤ z; omega) _, Or.inr ⟨r, d, HR.out.symm, rfl⟩⟩
    · obtain ⟨⟨xr, xd, xb⟩, p1, rfl⟩ : ∃ x p1, p = x :: p1 := by
        cases p with
        | nil => exact absurd (Or.inl rfl) hemp
        | cons x p1 => exact ⟨x, p1, rfl⟩
      obtain ⟨⟨yr, yd, yb⟩, q1, rfl⟩ : ∃ y q1, q = y :: q1 := by
        cases q with
        | nil => exact absurd (Or.inr rfl) hemp
        | cons x p1 => exact ⟨x, p1, rfl⟩
      have hu := HN.out.up wr HN.out.bel
      have hd := HN.out.dn wr HN.out.bel
      obtain ⟨ub, uoff, eu, hul, c0, c1, c2⟩ := hu.at (j := 0) (x := (xr, xd, xb)) rfl
      obtain ⟨db, doff, ed, hdl, d0, d1, d2⟩ := hd.at (j := 0) (x := (yr, yd, yb)) rfl
      rw [Nat.zero_mul, Nat.add_zero] at c0 c1 c2 d0 d1 d2
      obtain ⟨su, hsu, hcutu⟩ := cut_sn uo p1.length uc hu.cap
      obtain ⟨sd, hsd, hcutd⟩ := cut_sn dv q1.length dc hd.cap
      have HTU : Hid (∀ wx, Below w.heap.size w wx → HasSn wx (.slice su p1.length (uc - 1)) p1) := fun wx hx => sn_tail (HN.out.up wx hx) hsu
      have HTD : Hid (∀ wx, Below w.heap.size w wx → HasSn wx (.slice sd q1.length (dc - 1)) q1) := fun wx hx => sn_tail (HN.out.dn wx hx) hsd
      subst eu ed
      obtain ⟨m, hm⟩ : ∃ m, p1.length + 1 = m := ⟨_, rfl⟩
      obtain ⟨k, hk⟩ : ∃ k, q1.length + 1 = k := ⟨_, rfl⟩
      have i1 : decide ((m : Int) > 0) = true := by simp; omega
      have i2 : decide ((k : Int) > 0) = true := by simp; omega
      have i3 : (0 : Int) < (m : Int) := by omega
      have i4 : (0 : Int) < (k : Int) := by omega
      have hxb : 0 ≤ xd ∧ xd < 9223372036854775808 := HN.out.pp (xr, xd, xb) (List.mem_cons_self ..)
      have hyb : 0 ≤ yd ∧ yd < 9223372036854775808 := HN.out.pq (yr, yd, yb) (List.mem_cons_self ..)
      have i5 : IntKind.u64.wrap (xd + yd) = xd + yd := by rw [IntKind.wrap_u64]; omega
      simp only [List.length_cons] at hpl hql ⊢
      rw [hm] at hcutu hpl ⊢
      rw [hk] at hcutd hql ⊢
      clear hu hd hsu hsd hemp
      go_upto_region 4 with fail
      go_region_held3 (fun w' => (w'.cell? ⟨ub, uoff, none⟩ = some (.int .i64 (xr : Int)) ∧ w'.cell? ⟨ub, uoff + 1, none⟩ = some (.int .u64 xd) ∧ w'.cell? ⟨ub, uoff + 2, none⟩ = some (.bool xb)) ∧ w'.cell? ⟨db, doff, none⟩ = some (.int .i64 (yr : Int)) ∧ w'.cell? ⟨db, doff + 1, none⟩ = some (.int .u64 yd) ∧ w'.cell? ⟨db, doff + 2, none⟩ = some (.bool yb)) (go_keep) (fail)
      · obtain ⟨k8, hk8⟩ : ∃ k8, wr.heap.size = k8 := ⟨_, rfl⟩
        obtain ⟨k9, hk9⟩ : ∃ k9, wr.heap.size + 1 = k9 := ⟨_, rfl⟩
        obtain ⟨W5, hW5⟩ : ∃ W5, ((wr.alloc (.cells #[.int .i64 (xr : Int), .int .u64 xd, .bool xb] 91)).alloc (.cells #[.int .i64 (yr : Int), .int .u64 yd, .bool yb] 91)).drew = W5 := ⟨_, rfl⟩
        have HE : Hid (Below wr.heap.size wr W5 ∧ W5.heap[k8]? = some (.cells #[.int .i64 (xr : Int), .int .u64 xd, .bool xb] 91) ∧ W5.heap[k9]? = some (.cells #[.int .i64 (yr : Int), .int .u64 yd, .bool yb] 91)) := by
          have g2 : Below wr.heap.size wr W5 := by rw [← hW5]; exact (((Below.refl _ _).alloc (Nat.le_refl _) _).alloc (by simp) _).drew
          have ga : W5.heap[wr.heap.size]? = some (.cells #[.int .i64 (xr : Int), .int .u64 xd, .bool xb] 91) := by rw [← hW5]; exact (Below.heap_alloc _ _ _ (by simp)).trans (heap_newW _ _)
          have gb : W5.heap[wr.heap.size + 1]? = some (.cells #[.int .i64 (yr : Int), .int .u64 yd, .bool yb] 91) := by
            have g := heap_newW (wr.alloc (.cells #[.int .i64 (xr : Int), .int .u64 xd, .bool xb] 91)) (.cells #[.int .i64 (yr : Int), .int .u64 yd, .bool yb] 91)
            rw [World.size_alloc] at g
            rw [← hW5]
            exact g
          rw [← hk8, ← hk9]
          exact ⟨g2, ga, gb⟩
        have n8 : k8 ≠ z + 1 := by have := some_lt HN.out.by_; omega
        have n8' : z + 1 ≠ k8 := n8.symm
        have n9 : k9 ≠ z + 1 := by have := some_lt HN.out.by_; omega
        have n9' : z + 1 ≠ k9 := n9.symm
        (first | rw [hW5] | skip)
        rw [hk9, hk8]
        clear hk8 hk9 hW5
        have HN5 : Hid (NI w z p0 q0 (some ⟨ub, uoff, none⟩) uc (some ⟨db, doff, none⟩) dc ((xr, xd, xb) :: p1) ((yr, yd, yb) :: q1) b W5) := HN.out.below HE.out.1
        obtain ⟨e0, e1, e2⟩ := three_cells HE.out.2.1
        obtain ⟨g0, g1, g2⟩ := three_cells HE.out.2.2
        rcases Nat.lt_trichotomy xr yr with hlt | hlt | hlt
        · have j1 : ((xr : Int) == (yr : Int)) = false := by simp; omega
          have j2 : decide ((xr : Int) ≤ (yr : Int)) = true := by simp; omega
          have j3 : decide ((yr : Int) ≤ (xr : Int)) = false := by simp; omega
          have j4 : decide (xr ≤ yr) = true := by simp; omega
          have j5 : decide (yr ≤ xr) = false := by simp; omega
          have j6 : (xr == yr) = false := by simp; omega
          go_wp2
          go_roundw
          case rel => exact ⟨su, uc - 1, some ⟨db, doff, none⟩, dc, p1, (yr, yd, yb) :: q1, b, rfl, by rw [List.length_cons, hk], rfl, by omega, by simp; omega, HN5.out.left hlt HTU.out⟩
          case measure => simp [lenV]; omega
        · subst hlt
          have j1 : ((xr : Int) == (xr : Int)) = true := by simp
          have j2 : decide ((xr : Int) ≤ (xr : Int)) = true := by simp
          obtain ⟨b0, b1, hbc⟩ := bestC_two b
          have hby := HN5.out.by_
          cases b with
          | none =>
            obtain ⟨⟨s0, s1⟩, t0, t1⟩ := two_cells (a0 := .int .i64 0) (a1 := .int .u64 0) hby
            have HBB := NI.best HZ.out HN5.out rfl xr (xd + yd)
            have HBB' : Hid (type_of% HBB) := HBB
            clear hby hbc HBB
            go_wp2
            go_roundw
            case rel => exact ⟨su, uc - 1, sd, dc - 1, p1, q1, some (xr, xd + yd), rfl, rfl, rfl, by omega, by omega, HN5.out.both HTU.out HTD.out (by simp [bst]) HBB'.out.2.2 HBB'.out.2.1 HBB'.out.1⟩
            case measure => simp [lenV]; omega
          | some rd =>
            obtain ⟨r, d⟩ := rd
            obtain ⟨⟨s0, s1⟩, t0, t1⟩ := two_cells (a0 := .int .i64 (r : Int)) (a1 := .int .u64 d) hby
            have HBB := NI.best HZ.out HN5.out rfl xr (xd + yd)
            have HBB' : Hid (type_of% HBB) := HBB
            have HBY : Hid (W5.heap[z + 1]? = some (.cells (bestC (some (r, d))) 52)) := hby
            clear hby hbc HBB
            by_cases hsum : xd + yd < d
            · have j3 : decide (xd + yd < d) = true := by simpa using hsum
              go_wp2
              go_roundw
              case rel => exact ⟨su, uc - 1, sd, dc - 1, p1, q1, some (xr, xd + yd), rfl, rfl, rfl, by omega, by omega, HN5.out.both HTU.out HTD.out (by simp [bst, hsum]) HBB'.out.2.2 HBB'.out.2.1 HBB'.out.1⟩
              case measure => simp [lenV]; omega
            · have j3 : decide (xd + yd < d) = false := by simpa using hsum
              go_wp2
              go_roundw
              case rel => exact ⟨su, uc - 1, sd, dc - 1, p1, q1, some (r, d), rfl, rfl, rfl, by omega, by omega, HN5.out.both HTU.out HTD.out (by simp [bst, hsum]) HN5.out.bel HN5.out.bz HBY.out⟩
              case measure => simp [lenV]; omega
        · have j1 : ((xr : Int) == (yr : Int)) = false := by simp; omega
          have j2 : decide ((xr : Int) ≤ (yr : Int)) = false := by simp; omega
          have j3 : decide ((yr : Int) ≤ (xr : Int)) = true := by simp; omega
          have j4 : decide (xr ≤ yr) = false := by simp; omega
          have j5 : decide (yr ≤ xr) = true := by simp; omega
          have j6 : (xr == yr) = false := by simp; omega
          go_wp2
          go_roundw
          case rel => exact ⟨some ⟨ub, uoff, none⟩, uc, sd, dc - 1, (xr, xd, xb) :: p1, q1, b, by rw [List.length_cons, hm], rfl, rfl, by simp; omega, by omega, HN5.out.right hlt HTD.out⟩
          case measure => simp [lenV]; omega
      · obtain ⟨k8, hk8⟩ : ∃ k8, wr.heap.size + 1 = k8 := ⟨_, rfl⟩
        obtain ⟨k9, hk9⟩ : ∃ k9, wr.heap.size = k9 := ⟨_, rfl⟩
        obtain ⟨W5, hW5⟩ : ∃ W5, ((wr.alloc (.cells #[.int .i64 (yr : Int), .int .u64 yd, .bool yb] 91)).alloc (.cells #[.int .i64 (xr : Int), .int .u64 xd, .bool xb] 91)).drew = W5 := ⟨_, rfl⟩
        have HE : Hid (Below wr.heap.size wr W5 ∧ W5.heap[k8]? = some (.cells #[.int .i64 (xr : Int), .int .u64 xd, .bool xb] 91) ∧ W5.heap[k9]? = some (.cells #[.int .i64 (yr : Int), .int .u64 yd, .bool yb] 91)) := by
          have g2 : Below wr.heap.size wr W5 := by rw [← hW5]; exact (((Below.refl _ _).alloc (Nat.le_refl _) _).alloc (by simp) _).drew
          have ga : W5.heap[wr.heap.size]? = some (.cells #[.int .i64 (yr : Int), .int .u64 yd, .bool yb] 91) := by rw [← hW5]; exact (Below.heap_alloc _ _ _ (by simp)).trans (heap_newW _ _)
          have gb : W5.heap[wr.heap.size + 1]? = some (.cells #[.int .i64 (xr : Int), .int .u64 xd, .bool xb] 91) := by
            have g := heap_newW (wr.alloc (.cells #[.int .i64 (yr : Int), .int .u64 yd, .bool yb] 91)) (.cells #[.int .i64 (xr : Int), .int .u64 xd, .bool xb] 91)
            rw [World.size_alloc] at g
            rw [← hW5]
            exact g
          rw [← hk8, ← hk9]
          exact ⟨g2, gb, ga⟩
        have n8 : k8 ≠ z + 1 := by have := some_lt HN.out.by_; omega
        have n8' : z + 1 ≠ k8 := n8.symm
        have n9 : k9 ≠ z + 1 := by have := some_lt HN.out.by_; omega
        have n9' : z + 1 ≠ k9 := n9.symm
        (first | rw [hW5] | skip)
        rw [hk8, hk9]
        clear hk8 hk9 hW5
        have HN5 : Hid (NI w z p0 q0 (some ⟨ub, uoff, none⟩) uc (some ⟨db, doff, none⟩) dc ((xr, xd, xb) :: p1) ((yr, yd, yb) :: q1) b W5) := HN.out.below HE.out.1
        obtain ⟨e0, e1, e2⟩ := three_cells HE.out.2.1
        obtain ⟨g0, g1, g2⟩ := three_cells HE.out.2.2
        rcases Nat.lt_trichotomy xr yr with hlt | hlt | hlt
        · have j1 : ((xr : Int) == (yr : Int)) = false := by simp; omega
          have j2 : decide ((xr : Int) ≤ (yr : Int)) = true := by simp; omega
          have j3 : decide ((yr : Int) ≤ (xr : Int)) = false := by simp; omega
          have j4 : decide (xr ≤ yr) = true := by simp; omega
          have j5 : decide (yr ≤ xr) = false := by simp; omega
          have j6 : (xr == yr) = false := by simp; omega
          go_wp2
          go_roundw
          case rel => exact ⟨su, uc - 1, some ⟨db, doff, none⟩, dc, p1, (yr, yd, yb) :: q1, b, rfl, by rw [List.length_cons, hk], rfl, by omega, by simp; omega, HN5.out.left hlt HTU.out⟩
          case measure => simp [lenV]; omega
        · subst hlt
          have j1 : ((xr : Int) == (xr : Int)) = true := by simp
          have j2 : decide ((xr : Int) ≤ (xr : Int)) = true := by simp
          obtain ⟨b0, b1, hbc⟩ := bestC_two b
          have hby := HN5.out.by_
          cases b with
          | none =>
            obtain ⟨⟨s0, s1⟩, t0, t1⟩ := two_cells (a0 := .int .i64 0) (a1 := .int .u64 0) hby
            have HBB := NI.best HZ.out HN5.out rfl xr (xd + yd)
            have HBB' : Hid (type_of% HBB) := HBB
            clear hby hbc HBB
            go_wp2
            go_roundw
            case rel => exact ⟨su, uc - 1, sd, dc - 1, p1, q1, some (xr, xd + yd), rfl, rfl, rfl, by omega, by omega, HN5.out.both HTU.out HTD.out (by simp [bst]) HBB'.out.2.2 HBB'.out.2.1 HBB'.out.1⟩
            case measure => simp [lenV]; omega
          | some rd =>
            obtain ⟨r, d⟩ := rd
            obtain ⟨⟨s0, s1⟩, t0, t1⟩ := two_cells (a0 := .int .i64 (r : Int)) (a1 := .int .u64 d) hby
            have HBB := NI.best HZ.out HN5.out rfl xr (xd + yd)
            have HBB' : Hid (type_of% HBB) := HBB
            have HBY : Hid (W5.heap[z + 1]? = some (.cells (bestC (some (r, d))) 52)) := hby
            clear hby hbc HBB
            by_cases hsum : xd + yd < d
            · have j3 : decide (xd + yd < d) = true := by simpa using hsum
              go_wp2
              go_roundw
              case rel => exact ⟨su, uc - 1, sd, dc - 1, p1, q1, some (xr, xd + yd), rfl, rfl, rfl, by omega, by omega, HN5.out.both HTU.out HTD.out (by simp [bst, hsum]) HBB'.out.2.2 HBB'.out.2.1 HBB'.out.1⟩
              case measure => simp [lenV]; omega
            · have j3 : decide (xd + yd < d) = false := by simpa using hsum
              go_wp2
              go_roundw
              case rel => exact ⟨su, uc - 1, sd, dc - 1, p1, q1, some (r, d), rfl, rfl, rfl, by omega, by omega, HN5.out.both HTU.out HTD.out (by simp [bst, hsum]) HN5.out.bel HN5.out.bz HBY.out⟩
              case measure => simp [lenV]; omega
        · have j1 : ((xr : Int) == (yr : Int)) = false := by simp; omega
          have j2 : decide ((xr : Int) ≤ (yr : Int)) = false := by simp; omega
          have j3 : decide ((yr : Int) ≤ (xr : Int)) = true := by simp; omega
          have j4 : decide (xr ≤ yr) = false := by simp; omega
          have j5 : decide (yr ≤ xr) = true := by simp; omega
          have j6 : (xr == yr) = false := by simp; omega
          go_wp2
          go_roundw
          case rel => exact ⟨some ⟨ub, uoff, none⟩, uc, sd, dc - 1, (xr, xd, xb) :: p1, q1, b, by rw [List.length_cons, hm], rfl, rfl, by simp; omega, by omega, HN5.out.right hlt HTD.out⟩
          case measure => simp [lenV]; omega
end Go.Proofs.Ytepkogijignmlab.Qy
