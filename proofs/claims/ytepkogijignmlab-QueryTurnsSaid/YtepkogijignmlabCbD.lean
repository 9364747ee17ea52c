/- climber.reached: what can be reached over links that rise. -/
import Derived.Test.YtepkogijignmlabCbC
namespace Go.Proofs.Ytepkogijignmlab.Cb
open Go.RowKit Go.Extern Go.Shelf Hi

attribute [local go_sem] Oper.semAt_some

def nos (x : Nat × Int) : Nat × Int × Bool := (x.1, x.2, false)
theorem waits_empty (n r : Nat) : waits (List.replicate n none) r = fun _ => none := by
  funext z
  unfold waits
  split
  · rename_i d hd
    rw [List.getElem?_replicate] at hd
    split at hd <;> simp at hd
  · rfl
theorem relax_start {n s : Nat} (hs : s < n) : relax (List.replicate n none) s 0 = start n s := by
  unfold relax start
  rw [List.getElem?_replicate, if_pos hs]
theorem low_start (n s : Nat) : Low (start n s) := by
  intro x k hk
  unfold start at hk
  by_cases e : s = x
  · subst e
    have hlt := (List.getElem?_eq_some_iff.1 hk).1
    rw [List.getElem?_set_self (by simpa using hlt)] at hk
    obtain rfl : 0 = k := by simpa using hk
    exact ⟨Int.le_refl _, by omega⟩
  · rw [List.getElem?_set_ne e, List.getElem?_replicate] at hk
    split at hk <;> simp at hk
/-- while reached goes on: x is the rank that was taken out, if bb. -/
structure LI (row : Nat → List Lk) (B : Nat) (w : World) (n s : Nat) (L : CP) (z : Nat) (cs : Array Value) (x : Nat) (bb : Bool) (vs : List (Option Int)) (out : List (Nat × Int)) (sv ov : Value) (wr : World) : Prop where
  clm : ∃ r, Clm B wr n L sv vs (waits vs r) ∧ (bb = true → r = x + 1)
  own : wr.ownsRow B 91 3 ov out.length (snv (out.map nos))
  box : wr.heap[z]? = some (.cells cs 89)
  bel : Below B w wr
  low : Low vs
  ran : run row n 0 (start n s) [] = if bb = true then run row (n - x) x vs out else (vs, out)
  hit : bb = true → x < n ∧ out.length ≤ x ∧ ∃ d, vs[x]? = some (some d)
variable {row : Nat → List Lk} {B : Nat} {w wr : World} {n s : Nat} {L : CP} {z : Nat} {cs : Array Value} {vs : List (Option Int)} {out : List (Nat × Int)} {sv ov : Value}
theorem popL_calls (r : Nat) (hc : Clm B wr n L sv vs (waits vs r)) (hB : B ≤ w.heap.size) (ho : wr.ownsRow B 91 3 ov out.length (snv (out.map nos))) (hz : wr.heap[z]? = some (.cells cs 89)) (hb : Below B w wr) (hl : Low vs) (hr : r ≤ n) (hol : out.length ≤ r) (hran : run row n 0 (start n s) [] = run row (n - r) r vs out) :
    Calls Try.prog 42 #[.pointer (some ⟨L.hb, 0, none⟩)] wr fun e w' => ∃ (x : Nat) (kv : Int) (bb : Bool) (sv' : Value), e = .returned (.tuple #[.int .u32 (x : Int), .int .u64 kv, .bool bb]) ∧ LI row B w n s L z cs x bb vs out sv' ov w' ∧ (bb = true → r ≤ x) := by
  have hB' : B ≤ wr.heap.size := Nat.le_trans hB hb.size
  refine (pop_calls r hc hB').mono ?_
  rintro e w' ⟨sv', hF, hh⟩
  have o' := hF.row hc ho
  have z' := hF.box hc hz
  have b' : Below B w w' := hb.trans (hF.below hc hB')
  rcases hh with ⟨rfl, hn, hC⟩ | ⟨x, rfl, hrx, hx, ⟨d, hd⟩, hn, hC⟩
  · refine ⟨0, 0, false, sv', rfl, ⟨⟨r, hC, fun e => by cases e⟩, o', z', b', hl, ?_, fun e => by cases e⟩, fun e => by cases e⟩
    rw [hran, run_end row hr hn]
    rfl
  · refine ⟨x, x, true, sv', rfl, ⟨⟨x + 1, hC, fun _ => rfl⟩, o', z', b', hl, ?_, fun _ => ⟨hx, by omega, d, hd⟩⟩, fun _ => hrx⟩
    rw [hran, run_skip row (x - r) (n - r) r (by omega) (fun y h1 h2 => hn y h1 (by omega)), if_pos rfl]
    congr 1 <;> omega
/-- while the links of a rank are gone through. -/
structure IL (B : Nat) (w : World) (n : Nat) (L : CP) (z : Nat) (cs : Array Value) (x : Nat) (vs : List (Option Int)) (out : List (Nat × Int)) (ov : Value) (wr : World) : Prop where
  clm : ∃ sv, Clm B wr n L sv vs (waits vs (x + 1))
  own : wr.ownsRow B 91 3 ov out.length (snv (out.map nos))
  box : wr.heap[z]? = some (.cells cs 89)
  bel : Below B w wr
  low : Low vs
theorem IL.below {x : Nat} {wn : World} (h : IL B w n L z cs x vs out ov wr) (hb : Below wr.heap.size wr wn) (hB : B ≤ wr.heap.size) : IL B w n L z cs x vs out ov wn := by
  obtain ⟨sv, hc⟩ := h.clm
  exact ⟨⟨sv, hc.below hb⟩, own_keep h.own fun k _ _ hh => (hb.block k (some_lt hh)).trans hh, (hb.block _ (some_lt h.box)).trans h.box, h.bel.trans (hb.mono hB), h.low⟩
theorem reachL_calls (x y : Nat) (d : Int) (hy : x + 1 ≤ y) (hyn : y < n) (hd : 0 ≤ d ∧ d ≤ (y : Int) * 140737488355328) (h : IL B w n L z cs x vs out ov wr) (hB : B ≤ w.heap.size) :
    Calls Try.prog 41 #[.pointer (some ⟨L.ci, 0, none⟩), .int .u32 (y : Int), .int .u64 d] wr fun e w' => e = .returned (.tuple #[]) ∧ IL B w n L z cs x (relax vs y d) out ov w' := by
  have hB' : B ≤ wr.heap.size := Nat.le_trans hB h.bel.size
  obtain ⟨sv, hc⟩ := h.clm
  refine (reach_calls (x + 1) y d hyn hy hc hB').mono ?_
  rintro e w' ⟨rfl, sv', hC, hF⟩
  exact ⟨rfl, ⟨sv', hC⟩, hF.row hc h.own, hF.box hc h.box, h.bel.trans (hF.below hc hB'), low_relax h.low hd⟩

theorem il_grown {x : Nat} {d : Int} {w3 w5 : World} {v5 : Value} (h : IL B w n L z cs x vs out ov w3) (hB : B ≤ w3.heap.size) (ho : w5.ownsRow B 91 3 v5 (out.length + 1) (snv (out.map nos) ++ snv [(x, d, false)])) (hg : (w3.alloc (.cells (snv [(x, d, false)]).toArray 91)).grownBy w5 ov.ownBlock) : IL B w n L z cs x vs (out ++ [(x, d)]) v5 w5 := by
  obtain ⟨sv, hc⟩ := h.clm
  have hb : Below w3.heap.size w3 (w3.alloc (.cells (snv [(x, d, false)]).toArray 91)) := (Below.refl _ _).alloc (Nat.le_refl _) _
  have h' := h.below hb hB
  obtain ⟨sv', hc'⟩ := h'.clm
  refine ⟨⟨sv', hc'.grown h'.own hg⟩, ?_, ?_, ?_, h.low⟩
  · have e : snv (out.map nos) ++ snv [(x, d, false)] = snv ((out ++ [(x, d)]).map nos) := by rw [List.map_append, snv_append]; rfl
    rw [e] at ho
    rw [List.length_append]
    exact ho
  · refine (hg.block z (some_lt h'.box) (fun e => ?_)).trans h'.box
    rcases h'.own.2 with ⟨e1, _⟩ | ⟨g, cap, cur, e1, _, hh, _⟩
    · rw [e1] at e; cases e
    · rw [e1] at e
      simp [Value.ownBlock] at e
      subst e
      have := h'.box
      rw [hh] at this
      simp at this
  · exact below_grown h'.bel h'.own hg (Nat.le_trans hB hb.size)
theorem il_own {x : Nat} {d : Int} {wr : World} {v : Value} (h : IL B w n L z cs x vs (out ++ [(x, d)]) v wr) : wr.ownsRow B 91 3 v (out.length + 1) (snv ((out ++ [(x, d)]).map nos)) := by
  have := h.own
  rw [List.length_append] at this
  exact this

theorem il_box {x : Nat} {wr : World} {v a0 a1 : Value} (h : IL B w n L z #[a0, a1] x vs out v wr) : wr.cell? ⟨z, 0, none⟩ = some a0 ∧ wr.cell? ⟨z, 1, none⟩ = some a1 := by simp [World.cell?, h.box]

set_option maxRecDepth 100000 in
set_option maxHeartbeats 4000000 in
theorem reached_calls (fo lo : Option Addr) (fc lc : Nat) (F : List Nat) (Ls : List Lk) (h : Clm B w n L sv (List.replicate n none) (fun _ => none)) (hB : B ≤ w.heap.size) (hs : s < n) (hn : n ≤ 65536) (hF : FOk F Ls.length) (hFn : F.length = n + 1) (hLs : Ls.length ≤ 1048576) (hM : ∀ wx, Below B w wx → HasWs wx (.slice fo F.length fc) F ∧ HasLs wx (.slice lo Ls.length lc) Ls) (hrow : ∀ r, r < n → ∀ l ∈ rowL F Ls r, r < l.hd ∧ l.hd < n ∧ l.wt ≤ 140737488355328) :
    Calls Try.prog 37 #[.pointer (some ⟨L.ci, 0, none⟩), .int .u32 (s : Int), .agg #[.slice fo F.length fc, .slice lo Ls.length lc]] w fun e w' => ∃ (sv' : Value) (mo : Option Addr) (mc r : Nat) (vs : List (Option Int)) (out : List (Nat × Int)), run (rowL F Ls) n 0 (start n s) [] = (vs, out) ∧ e = .returned (.slice mo out.length mc) ∧ Clm B w' n L sv' vs (waits vs r) ∧ w'.ownsRow B 91 3 (.slice mo out.length mc) out.length (snv (out.map nos)) ∧ Below B w w' ∧ Low vs := by
  obtain ⟨i0, hi9, hzz⟩ := Option.map_eq_some_iff.1 infoSn
  simp only [Prod.mk.injEq] at hzz
  have HI : Hid (Try.prog.info? 91 = some i0 ∧ i0.zero = some (.agg #[.int .i64 0, .int .u64 0, .bool false]) ∧ i0.size = 3 ∧ i0.bytes = 24) := ⟨hi9, hzz⟩
  obtain ⟨z, hz⟩ : ∃ z, w.heap.size = z := ⟨_, rfl⟩
  obtain ⟨W0, hW0⟩ : ∃ W0, w.alloc (.cells #[.slice fo F.length fc, .slice lo Ls.length lc] 89) = W0 := ⟨_, rfl⟩
  have hb0 : Below w.heap.size w W0 := by rw [← hW0]; exact (Below.refl _ _).alloc (Nat.le_refl _) _
  have g1 : W0.heap[z]? = some (.cells #[.slice fo F.length fc, .slice lo Ls.length lc] 89) := by rw [← hW0, ← hz]; exact heap_newW _ _
  have hC0 : Clm B W0 n L sv (List.replicate n none) (waits (List.replicate n none) 0) := by rw [waits_empty]; exact h.below hb0
  have HR0 : Hid (Calls Try.prog 41 #[.pointer (some ⟨L.ci, 0, none⟩), .int .u32 (s : Int), .int .u64 0] W0 fun e w' => e = .returned (.tuple #[]) ∧ ∃ sv', Clm B w' n L sv' (start n s) (waits (start n s) 0) ∧ Below B w w' ∧ w'.heap[z]? = some (.cells #[.slice fo F.length fc, .slice lo Ls.length lc] 89)) := by
    have g := reach_calls 0 s 0 hs (Nat.zero_le _) hC0 (Nat.le_trans hB hb0.size)
    rw [relax_start hs] at g
    refine g.mono ?_
    rintro e w' ⟨rfl, sv', a, b⟩
    exact ⟨rfl, sv', a, (hb0.mono hB).trans (b.below hC0 (Nat.le_trans hB hb0.size)), b.box hC0 g1⟩
  have HM : Hid (∀ wx, Below B w wx → HasWs wx (.slice fo F.length fc) F ∧ HasLs wx (.slice lo Ls.length lc) Ls) := hM
  have HF : Hid (FOk F Ls.length ∧ F.length = n + 1 ∧ Ls.length ≤ 1048576) := ⟨hF, hFn, hLs⟩
  have HRW : Hid (∀ r, r < n → ∀ l ∈ rowL F Ls r, r < l.hd ∧ l.hd < n ∧ l.wt ≤ 140737488355328) := hrow
  have HB : Hid (B ≤ w.heap.size) := hB
  have HW0 : Hid (w.alloc (.cells #[.slice fo F.length fc, .slice lo Ls.length lc] 89) = W0) := hW0
  have HPOP : Hid (∀ (wr : World) (r : Nat) (sv ov : Value) (vs : List (Option Int)) (out : List (Nat × Int)), Clm B wr n L sv vs (waits vs r) → wr.ownsRow B 91 3 ov out.length (snv (out.map nos)) → wr.heap[z]? = some (.cells #[.slice fo F.length fc, .slice lo Ls.length lc] 89) → Below B w wr → Low vs → r ≤ n → out.length ≤ r → run (rowL F Ls) n 0 (start n s) [] = run (rowL F Ls) (n - r) r vs out → Calls Try.prog 42 #[.pointer (some ⟨L.hb, 0, none⟩)] wr fun e w' => ∃ (x : Nat) (kv : Int) (bb : Bool) (sv' : Value), e = .returned (.tuple #[.int .u32 (x : Int), .int .u64 kv, .bool bb]) ∧ LI (rowL F Ls) B w n s L z #[.slice fo F.length fc, .slice lo Ls.length lc] x bb vs out sv' ov w' ∧ (bb = true → r ≤ x)) := fun wr r sv ov vs out a b c d e f g i => popL_calls r a hB b c d e f g i
  obtain ⟨c0, c1⟩ := hC0.cells
  clear hi9 hzz h hb0 g1 hC0 hM hF hFn hLs hrow hB hW0
  go_enter Try.func37, Try.ntmps37
  go_wp2_with fail
  rw [HW0.out]
  refine HR0.out.mono ?_
  rintro e w1 ⟨rfl, sv1, hC1, hb1, hz1⟩
  have H1 : Hid (Clm B w1 n L sv1 (start n s) (waits (start n s) 0) ∧ Below B w w1 ∧ w1.heap[z]? = some (.cells #[.slice fo F.length fc, .slice lo Ls.length lc] 89)) := ⟨hC1, hb1, hz1⟩
  clear c0 c1 hb1 hz1
  obtain ⟨c0, c1⟩ := hC1.cells
  clear hC1
  go_wp2_with fail
  refine (HPOP.out w1 0 sv1 (.slice none 0 0) (start n s) [] H1.out.1 (World.ownsRow_nil _ _ _ _) H1.out.2.2 H1.out.2.1 (low_start n s) (Nat.zero_le _) (Nat.zero_le _) rfl).mono ?_
  rintro e w2 ⟨x, kv, bb, sv2, rfl, hL2, _⟩
  have HL2 : Hid (LI (rowL F Ls) B w n s L z #[.slice fo F.length fc, .slice lo Ls.length lc] x bb (start n s) [] sv2 (.slice none 0 0) w2) := hL2
  clear hL2 c0 c1
  go_wp2_with fail
  go_loopw [7, 8, 10] (fun ov rv bv wr => ∃ (x : Nat) (bb : Bool) (vs : List (Option Int)) (out : List (Nat × Int)) (so : Option Addr) (sc : Nat), ov = .slice so out.length sc ∧ rv = .int .u32 (x : Int) ∧ bv = .bool bb ∧ Hid (∃ sv, LI (rowL F Ls) B w n s L z #[.slice fo F.length fc, .slice lo Ls.length lc] x bb vs out sv (.slice so out.length sc) wr)) (fun _ rv bv _ => match bv with | .bool true => n + 1 - (intOf rv).toNat | _ => 0)
  case atStart => exact ⟨x, bb, start n s, [], none, 0, rfl, rfl, rfl, sv2, HL2.out⟩
  case round =>
    obtain ⟨x, bb, vs, out, so, sc, rfl, rfl, rfl, HL⟩ := hrel
    cases bb with
    | false =>
      go_wp2
      go_ret
      obtain ⟨sv3, hL⟩ := HL.out
      obtain ⟨r, hC, _⟩ := hL.clm
      have hr := hL.ran
      simp only [Bool.false_eq_true, if_false] at hr
      exact ⟨sv3, so, sc, r, vs, out, hr, rfl, hC, hL.own, hL.bel, hL.low⟩
    | true =>
      obtain ⟨sv3, hL⟩ := HL.out
      obtain ⟨r, hC, hr⟩ := hL.clm
      have hr' := hr rfl
      subst hr'
      obtain ⟨hxn, hol, d, hd⟩ := hL.hit rfl
      have hlow := hL.low x d hd
      have HRAN : Hid (run (rowL F Ls) n 0 (start n s) [] = run (rowL F Ls) (n - (x + 1)) (x + 1) (relaxs d (rowL F Ls x) vs) (out ++ [(x, d)])) := by
        have g := hL.ran
        rw [if_pos rfl, run_take (rowL F Ls) (Nat.le_refl x) hxn hd (fun y h1 h2 => by omega)] at g
        exact g
      have HG : Hid (Calls Try.prog 43 #[.pointer (some ⟨L.sb, 0, none⟩), .int .i64 (x : Int)] wr fun e w' => e = .returned (.tuple #[.int .u64 d, .bool true]) ∧ Below wr.heap.size wr w') := St.get_in hC.st x (some d) hd
      have HIL : Hid (IL B w n L z #[.slice fo F.length fc, .slice lo Ls.length lc] x vs out (.slice so out.length sc) wr) := ⟨⟨sv3, hC⟩, hL.own, hL.box, hL.bel, hL.low⟩
      have x1 : IntKind.i64.wrap (x : Int) = (x : Int) := by rw [IntKind.wrap_i64]; omega
      obtain ⟨c0, c1⟩ := hC.cells
      clear hL hC hr hd HL
      go_wp2_with fail
      refine HG.out.mono ?_
      rintro e w3 ⟨rfl, hb3⟩
      have HI3 : Hid (IL B w n L z #[.slice fo F.length fc, .slice lo Ls.length lc] x vs out (.slice so out.length sc) w3) := HIL.out.below hb3 (Nat.le_trans HB.out HIL.out.bel.size)
      have HB3 : Hid (B ≤ w3.heap.size) := Nat.le_trans HB.out HI3.out.bel.size
      clear hb3 c0 c1
      go_wp2_with (first
        | (at_builtin; refine wpList_append_own _ rfl _ _ 70 rfl B 91 i0 (.agg #[.int .i64 0, .int .u64 0, .bool false]) 3 24 Try.underlying70 HI.out.1 HI.out.2.1 HI.out.2.2.1 HI.out.2.2.2 rfl (by decide) _ out.length (snv (out.map nos)) rfl (HI3.out.own.alloc _) ⟨w3.heap.size, 0, none⟩ 1 1 (snv [(x, d, false)]) rfl rfl (new_cells w3 (snv [(x, d, false)]) 91) (snv_one _) (by unfold maxLen; omega) (by omega) (by have := HB3.out; simp; omega) ?_; intro v5 w5 hown5 hgr5 _; have H5 : Hid (IL B w n L z #[.slice fo F.length fc, .slice lo Ls.length lc] x vs (out ++ [(x, d)]) v5 w5) := il_grown HI3.out HB3.out hown5 hgr5; clear hown5 hgr5; obtain ⟨po, pc, hv5⟩ := own_slice (il_own H5.out); subst hv5; obtain ⟨d0, d1⟩ := il_box H5.out)
        | fail)
      have HAT : Hid (Calls Try.prog 44 #[.agg #[.slice fo F.length fc, .slice lo Ls.length lc], .int .u32 (x : Int)] w5 fun e w' => ∃ so c, e = .returned (.slice so (rowL F Ls x).length c) ∧ (∀ wx, HasLs wx (.slice lo Ls.length lc) Ls → HasLs wx (.slice so (rowL F Ls x).length c) (rowL F Ls x)) ∧ Below w5.heap.size w5 w') := at_calls fo lo fc lc F Ls x w5 HF.out.1 (by have := HF.out.2.1; omega) (by have := HF.out.2.1; omega) (HM.out w5 H5.out.bel).1 (HM.out w5 H5.out.bel).2
      refine HAT.out.mono ?_
      rintro e w6 ⟨ro, rc, rfl, hX, hb6⟩
      have HX : Hid (∀ wx, HasLs wx (.slice lo Ls.length lc) Ls → HasLs wx (.slice ro (rowL F Ls x).length rc) (rowL F Ls x)) := hX
      have HI6 : Hid (IL B w n L z #[.slice fo F.length fc, .slice lo Ls.length lc] x (relaxs d ((rowL F Ls x).take 0) vs) (out ++ [(x, d)]) (.slice po (out.length + 1) pc) w6) := H5.out.below hb6 (Nat.le_trans HB.out H5.out.bel.size)
      have HLL : Hid (∀ (j : Nat) (l : Lk), (rowL F Ls x)[j]? = some l → x < l.hd ∧ l.hd < n ∧ l.wt ≤ 140737488355328) := fun j l hj => HRW.out x hxn l (List.mem_of_getElem? hj)
      have hm9 : (rowL F Ls x).length ≤ 1048576 := by
        have := HF.out.2.2
        have h2 : (rowL F Ls x).length ≤ Ls.length := by unfold rowL; rw [List.length_take, List.length_drop]; omega
        omega
      clear hX hb6 d0 d1
      obtain ⟨Rw, hRw⟩ : ∃ Rw, rowL F Ls x = Rw := ⟨_, rfl⟩
      rw [hRw] at HX HI6 HLL hm9 HRAN ⊢
      clear hRw HAT HG HIL HI3 H5
      go_wp2_with fail
      go_loopw [58] (fun iv wr => ∃ j : Nat, j ≤ Rw.length ∧ iv = .int .i64 j ∧ Hid (IL B w n L z #[.slice fo F.length fc, .slice lo Ls.length lc] x (relaxs d (Rw.take j) vs) (out ++ [(x, d)]) (.slice po (out.length + 1) pc) wr)) (fun iv _ => Rw.length - (intOf iv).toNat)
      case atStart => exact ⟨0, Nat.zero_le _, rfl, HI6.out⟩
      case round =>
        obtain ⟨j, hj, rfl, HJ⟩ := hrel
        rcases Nat.lt_or_eq_of_le hj with h1 | h1
        · obtain ⟨l, hl⟩ : ∃ l, Rw[j]? = some l := ⟨Rw[j], List.getElem?_eq_getElem h1⟩
          obtain ⟨q1, q2, q3⟩ := HLL.out j l hl
          obtain ⟨_, b, off, e1, _, g0, g1, g2, g3⟩ := (HX.out wr (HM.out wr HJ.out.bel).2).at hl
          subst e1
          have HT : Hid (relaxs d (Rw.take (j + 1)) vs = relax (relaxs d (Rw.take j) vs) l.hd (d + l.wt)) := by
            show _ = _
            rw [List.take_add_one, hl]
            unfold relaxs
            rw [List.foldl_append]
            rfl
          have i1 : (j : Int) < (Rw.length : Int) := by omega
          have i2 : (0 : Int) ≤ (j : Int) := by omega
          have i3 : IntKind.u64.wrap (d + (l.wt : Int)) = d + (l.wt : Int) := by rw [IntKind.wrap_u64]; omega
          have HRE : Hid (∀ wx, Below wr.heap.size wr wx → Calls Try.prog 41 #[.pointer (some ⟨L.ci, 0, none⟩), .int .u32 (l.hd : Int), .int .u64 (d + (l.wt : Int))] wx fun e w' => e = .returned (.tuple #[]) ∧ IL B w n L z #[.slice fo F.length fc, .slice lo Ls.length lc] x (relax (relaxs d (Rw.take j) vs) l.hd (d + l.wt)) (out ++ [(x, d)]) (.slice po (out.length + 1) pc) w') := fun wx hx => reachL_calls x l.hd (d + l.wt) q1 q2 (by omega) (HJ.out.below hx (Nat.le_trans HB.out HJ.out.bel.size)) HB.out
          clear hl
          go_wp2_with fail
          refine (HRE.out _ ((Below.refl _ _).alloc (Nat.le_refl _) _)).mono ?_
          rintro e w7 ⟨rfl, hI7⟩
          have HI7 : Hid (IL B w n L z #[.slice fo F.length fc, .slice lo Ls.length lc] x (relaxs d (Rw.take (j + 1)) vs) (out ++ [(x, d)]) (.slice po (out.length + 1) pc) w7) := by show IL _ _ _ _ _ _ _ _ _ _ _; rw [HT.out]; exact hI7
          clear hI7 g0 g1 g2 g3
          go_wp2
          go_roundw
          case rel => exact ⟨j + 1, by omega, by go_num, HI7.out⟩
          case measure => simp [intOf]; omega
        · subst h1
          have HJ2 : Hid (IL B w n L z #[.slice fo F.length fc, .slice lo Ls.length lc] x (relaxs d Rw vs) (out ++ [(x, d)]) (.slice po (out.length + 1) pc) wr) := by have g := HJ.out; rw [List.take_length] at g; exact g
          have hcl : ∃ sv, Clm B wr n L sv (relaxs d Rw vs) (waits (relaxs d Rw vs) (x + 1)) := HJ2.out.clm
          obtain ⟨sv7, hC7⟩ := hcl
          obtain ⟨c0, c1⟩ := hC7.cells
          have hlen : (out ++ [(x, d)]).length = out.length + 1 := by rw [List.length_append]; rfl
          have HPP : Hid (Calls Try.prog 42 #[.pointer (some ⟨L.hb, 0, none⟩)] wr fun e w' => ∃ (x' : Nat) (kv : Int) (bb : Bool) (sv' : Value), e = .returned (.tuple #[.int .u32 (x' : Int), .int .u64 kv, .bool bb]) ∧ LI (rowL F Ls) B w n s L z #[.slice fo F.length fc, .slice lo Ls.length lc] x' bb (relaxs d Rw vs) (out ++ [(x, d)]) sv' (.slice po (out.length + 1) pc) w' ∧ (bb = true → x + 1 ≤ x')) := by
            have g := HPOP.out wr (x + 1) sv7 (.slice po (out.length + 1) pc) (relaxs d Rw vs) (out ++ [(x, d)]) hC7 HJ2.out.own HJ2.out.box HJ2.out.bel HJ2.out.low (by omega) (by rw [hlen]; omega) HRAN.out
            exact g
          clear hC7
          go_wp2_with fail
          refine HPP.out.mono ?_
          rintro e w8 ⟨x8, kv8, b8, sv8, rfl, hL8, hx8⟩
          have HL8 : Hid (LI (rowL F Ls) B w n s L z #[.slice fo F.length fc, .slice lo Ls.length lc] x8 b8 (relaxs d Rw vs) (out ++ [(x, d)]) sv8 (.slice po (out.length + 1) pc) w8) := hL8
          clear hL8 c0 c1
          go_wp2
          go_roundw
          case rel => exact ⟨x8, b8, relaxs d Rw vs, out ++ [(x, d)], po, pc, by rw [hlen], rfl, rfl, sv8, by rw [hlen]; exact HL8.out⟩
          case measure =>
            cases b8
            · simp [intOf]; omega
            · have := hx8 rfl
              have := (HL8.out.hit rfl).1
              simp [intOf]
              omega
end Go.Proofs.Ytepkogijignmlab.Cb
