/- csr.Build of a right graph, walked. -/
import Derived.Test.YtefcmpdnlbpjpaaCsrBu
import Derived.Test.YtefcmpdnlbpjpaaCsrOps
namespace Go.Proofs.Ytefcmpdnlbpjpaa
open Go.RowKit Go.Extern

attribute [local go_sem] Oper.semAt_some

/-- arcs don't lie in a graph's box. -/
theorem HasArcs.layBox {w : World} {lv : Value} {xs : List (Int × Int × Int)} {mb : Nat} {x y : Value} {T : TypeId} (h : HasArcs w lv xs) (hb : w.heap[mb]? = some (.cells #[x, y] T)) (u v : Value) : HasArcs ((w.setCell ⟨mb, 0, none⟩ u).setCell ⟨mb, 1, none⟩ v) lv xs := by
  obtain ⟨ao, cap, e, hc⟩ := h
  refine ⟨ao, cap, e, fun j a hj => ?_⟩
  obtain ⟨b, off, ea, hl, h0, h1, h2⟩ := hc j a hj
  have hne : b ≠ mb := fun e => by
    subst e
    simp only [World.cell?, hb] at h2
    simp at h2
  have hk : ∀ o, ((w.setCell ⟨mb, 0, none⟩ u).setCell ⟨mb, 1, none⟩ v).cell? ⟨b, o, none⟩ = w.cell? ⟨b, o, none⟩ := fun o => World.cell?_of_block ((heap_setCell_other _ _ _ _ hne).trans (heap_setCell_other _ _ _ _ hne))
  exact ⟨b, off, ea, by simpa using hl, (hk _).trans h0, (hk _).trans h1, (hk _).trans h2⟩
theorem box_two {w : World} {b : Nat} {x y : Value} {T : TypeId} (h : w.heap[b]? = some (.cells #[x, y] T)) (u v : Value) : ((w.setCell ⟨b, 0, none⟩ u).setCell ⟨b, 1, none⟩ v).heap[b]? = some (.cells #[u, v] T) :=
  Go.heap_setCell_same _ b 1 _ T v (Go.heap_setCell_same w b 0 _ T u h)
theorem box_three {w : World} {b : Nat} {x y z : Value} {T : TypeId} (h : w.heap[b]? = some (.cells #[x, y, z] T)) (u v t : Value) : (((w.setCell ⟨b, 0, none⟩ u).setCell ⟨b, 1, none⟩ v).setCell ⟨b, 2, none⟩ t).heap[b]? = some (.cells #[u, v, t] T) :=
  Go.heap_setCell_same _ b 2 _ T t (Go.heap_setCell_same _ b 1 _ T v (Go.heap_setCell_same w b 0 _ T u h))

section
variable (w : World) (o0 o1 o2 o3 : Obj)
theorem at3 : ((((w.alloc o0).alloc o1).alloc o2).alloc o3).drew.heap[w.heap.size + 1 + 1 + 1]? = some o3 := by
  have h := heap_new (((w.alloc o0).alloc o1).alloc o2) o3
  show ((((w.alloc o0).alloc o1).alloc o2).alloc o3).heap[w.heap.size + 1 + 1 + 1]? = some o3
  simpa using h
theorem at2 : ((((w.alloc o0).alloc o1).alloc o2).alloc o3).drew.heap[w.heap.size + 1 + 1]? = some o2 := by
  have h := heap_new ((w.alloc o0).alloc o1) o2
  show ((((w.alloc o0).alloc o1).alloc o2).alloc o3).heap[w.heap.size + 1 + 1]? = some o2
  rw [Below.heap_alloc _ _ _ (by simp)]
  simpa using h
theorem at1 : ((((w.alloc o0).alloc o1).alloc o2).alloc o3).drew.heap[w.heap.size + 1]? = some o1 := by
  have h := heap_new (w.alloc o0) o1
  show ((((w.alloc o0).alloc o1).alloc o2).alloc o3).heap[w.heap.size + 1]? = some o1
  rw [Below.heap_alloc _ _ _ (by simp <;> omega), Below.heap_alloc _ _ _ (by simp)]
  simpa using h
theorem at0 : ((((w.alloc o0).alloc o1).alloc o2).alloc o3).drew.heap[w.heap.size]? = some o0 := by
  have h := heap_new w o0
  show ((((w.alloc o0).alloc o1).alloc o2).alloc o3).heap[w.heap.size]? = some o0
  rw [Below.heap_alloc _ _ _ (by simp <;> omega), Below.heap_alloc _ _ _ (by simp <;> omega), Below.heap_alloc _ _ _ (by simp)]
  exact h
theorem below4 : Below w.heap.size w ((((w.alloc o0).alloc o1).alloc o2).alloc o3).drew := (((((Below.refl _ w).alloc (Nat.le_refl _) _).alloc (by simp) _).alloc (by simp <;> omega) _).alloc (by simp <;> omega) _).drew
end
theorem bu_ex {w2 wr : World} {n m F T V C : Nat} {cv : Value} (e : cv = .pointer (some ⟨C, 0, none⟩)) (c : wr.heap[C]? = some (.cells #[.slice (some ⟨F, 0, none⟩) (n + 1) (n + 1), .slice (some ⟨T, 0, none⟩) m m, .slice (some ⟨V, 0, none⟩) m m] 27))
    (f : wr.heap[F]? = some (.cells (madeCells #[.int .i64 0] (n + 1)) 3)) (t : wr.heap[T]? = some (.cells (madeCells #[.int .i64 0] m) 3)) (v : wr.heap[V]? = some (.cells (madeCells #[.int .i64 0] m) 3))
    (low : w2.heap.size ≤ F ∧ w2.heap.size ≤ T ∧ w2.heap.size ≤ V ∧ w2.heap.size ≤ C) (ne : F ≠ T ∧ F ≠ V ∧ T ≠ V ∧ F ≠ C ∧ T ≠ C ∧ V ≠ C) (b : Below w2.heap.size w2 wr) : ∃ F T V C, cv = .pointer (some ⟨C, 0, none⟩) ∧ BuI w2 n m F T V C (fun _ => 0) (fun _ => 0) (fun _ => 0) wr :=
  ⟨F, T, V, C, e, .made f, .made t, .made v, c, low, ne, b⟩

set_option maxRecDepth 100000 in
set_option maxHeartbeats 4000000 in
theorem build_good (n : Nat) (ao : Option Addr) (k0 cap : Nat) (xs : List (Int × Int × Int)) (w : World) (hl : HasArcs w (.slice ao k0 cap) xs) (hg : graphErr (n : Int) xs = (0, [])) :
    Calls Try.prog 4 #[.agg #[.int .i64 n, .slice ao k0 cap]] w fun e w' => ∃ F T V, e = .returned (.tuple #[.agg #[.slice (some ⟨F, 0, none⟩) (n + 1) (n + 1), .slice (some ⟨T, 0, none⟩) (normA xs).length (normA xs).length, .slice (some ⟨V, 0, none⟩) (normA xs).length (normA xs).length], .nilIface]) ∧ (w.heap.size ≤ F ∧ w.heap.size ≤ T ∧ w.heap.size ≤ V ∧ F ≠ T ∧ F ≠ V ∧ T ≠ V) ∧ IntRow w' F (n + 1) (fun u => firstAt (normA xs) u) ∧ IntRow w' T (normA xs).length (fun i => (tos (normA xs)).getD i 0) ∧ IntRow w' V (normA xs).length (fun i => (weights (normA xs)).getD i 0) ∧ Below w.heap.size w w' := by
  have hz := fine_norm hg
  obtain ⟨zs, hzs⟩ : ∃ zs, normA xs = zs := ⟨_, rfl⟩
  have hN := hz.few
  have hM := hz.short
  obtain ⟨W0, hW0⟩ : ∃ W0, (w.alloc (.cells #[.int .i64 n, .slice ao k0 cap] 24)).alloc (.cells #[.slice none 0 0, .slice none 0 0, .slice none 0 0] 27) = W0 := ⟨_, rfl⟩
  have HW0 : Hid ((w.alloc (.cells #[.int .i64 n, .slice ao k0 cap] 24)).alloc (.cells #[.slice none 0 0, .slice none 0 0, .slice none 0 0] 27) = W0) := hW0
  have hB0 : Below w.heap.size w W0 := by rw [← hW0]; exact ((Below.refl _ w).alloc (Nat.le_refl _) _).alloc (by simp) _
  have k1 : W0.heap[w.heap.size]? = some (.cells #[.int .i64 n, .slice ao k0 cap] 24) := by rw [← hW0, Below.heap_alloc _ _ _ (by simp)]; exact heap_new _ _
  have k2 : W0.heap[w.heap.size + 1]? = some (.cells #[.slice none 0 0, .slice none 0 0, .slice none 0 0] 27) := by
    have h := heap_new (w.alloc (.cells #[.int .i64 n, .slice ao k0 cap] 24)) (.cells #[.slice none 0 0, .slice none 0 0, .slice none 0 0] 27)
    rw [hW0] at h
    simpa using h
  have HOF : Hid (Calls Try.prog 16 #[.agg #[.int .i64 n, .slice ao k0 cap]] W0 fun e w' => ∃ lo k lc, e = .returned (.tuple #[.agg #[.int .i64 n, .slice lo k lc], .nilIface]) ∧ HasArcs w' (.slice lo k lc) zs ∧ Below W0.heap.size W0 w') := by
    have h := of_good (hl.keep hB0) hg
    rw [hzs] at h
    exact h
  rw [hzs] at hz hM ⊢
  have HK : Hid (∀ wx, Below W0.heap.size W0 wx → wx.heap[w.heap.size]? = some (.cells #[.int .i64 n, .slice ao k0 cap] 24) ∧ wx.heap[w.heap.size + 1]? = some (.cells #[.slice none 0 0, .slice none 0 0, .slice none 0 0] 27) ∧ Below w.heap.size w wx) := fun wx hx =>
    ⟨(hx.block _ (lt_of_get k1)).trans k1, (hx.block _ (lt_of_get k2)).trans k2, hB0.trans (hx.mono hB0.size)⟩
  have HFI : Hid (Fine n zs) := hz
  clear hl hg hzs hW0 hB0 k1 k2 hz
  go_enter Try.func4, Try.ntmps4
  go_wp2_with fail
  rw [HW0.out]
  refine HOF.out.mono ?_
  rintro e w1 ⟨lo, m, lc, rfl, hA1, hb1⟩
  obtain rfl : m = zs.length := arcs_len hA1
  obtain ⟨g1, g2, gb⟩ := HK.out w1 hb1
  have H2 : Hid (HasArcs ((w1.setCell ⟨w.heap.size, 0, none⟩ (.int .i64 n)).setCell ⟨w.heap.size, 1, none⟩ (.slice lo zs.length lc)) (.slice lo zs.length lc) zs ∧ ((w1.setCell ⟨w.heap.size, 0, none⟩ (.int .i64 n)).setCell ⟨w.heap.size, 1, none⟩ (.slice lo zs.length lc)).heap[w.heap.size]? = some (.cells #[.int .i64 n, .slice lo zs.length lc] 24) ∧ ((w1.setCell ⟨w.heap.size, 0, none⟩ (.int .i64 n)).setCell ⟨w.heap.size, 1, none⟩ (.slice lo zs.length lc)).heap[w.heap.size + 1]? = some (.cells #[.slice none 0 0, .slice none 0 0, .slice none 0 0] 27) ∧ Below w.heap.size w ((w1.setCell ⟨w.heap.size, 0, none⟩ (.int .i64 n)).setCell ⟨w.heap.size, 1, none⟩ (.slice lo zs.length lc))) :=
    ⟨hA1.layBox g1 _ _, box_two g1 _ _, (heap_setCell_other _ _ _ _ (by simp)).trans ((heap_setCell_other _ _ _ _ (by simp)).trans g2), (gb.setCell (p := ⟨w.heap.size, 0, none⟩) (Nat.le_refl _) _).setCell (p := ⟨w.heap.size, 1, none⟩) (Nat.le_refl _) _⟩
  obtain ⟨b0, b1, y0, y1⟩ : w1.cell? ⟨w.heap.size, 0, none⟩ = some (.int .i64 n) ∧ w1.cell? ⟨w.heap.size, 1, none⟩ = some (.slice ao k0 cap) ∧ w1.frozen? ⟨w.heap.size, 0, none⟩ = false ∧ w1.frozen? ⟨w.heap.size, 1, none⟩ = false := by simp [World.cell?, World.frozen?, g1]
  have hs1 : w.heap.size < w1.heap.size := lt_of_get g1
  clear hA1 hb1 g1 g2 gb
  go_upto_region 4 with fail
  generalize ((w1.setCell ⟨w.heap.size, 0, none⟩ (.int .i64 n)).setCell ⟨w.heap.size, 1, none⟩ (.slice lo zs.length lc)) = w2 at *
  obtain ⟨c0, c1⟩ : w2.cell? ⟨w.heap.size, 0, none⟩ = some (.int .i64 n) ∧ w2.cell? ⟨w.heap.size, 1, none⟩ = some (.slice lo zs.length lc) := by simp [World.cell?, H2.out.2.1]
  have cs : w.heap.size < w2.heap.size := lt_of_get H2.out.2.1
  have hmk1 := fun wx => run_make_row' (P := Try.prog) 25 3 (.int .i64 0) 8 Try.underlying25 infoI rfl .i64 .i64 (n + 1) (by omega) (by omega) wx
  rw [show ((n + 1 : Nat) : Int) = (n : Int) + 1 by omega] at hmk1
  have hmk2 := fun wx => run_make_row' (P := Try.prog) 25 3 (.int .i64 0) 8 Try.underlying25 infoI rfl .i64 .i64 zs.length (by omega) (by omega) wx
  have e1 : IntKind.i64.wrap ((n : Int) + 1) = (n : Int) + 1 := by rw [IntKind.wrap_i64] <;> omega
  have HKS : Hid (∀ wx, Below w2.heap.size w2 wx → wx.cell? ⟨w.heap.size, 0, none⟩ = some (.int .i64 n) ∧ wx.cell? ⟨w.heap.size, 1, none⟩ = some (.slice lo zs.length lc)) := fun wx h => ⟨(h.cell (p := ⟨w.heap.size, 0, none⟩) cs).trans c0, (h.cell (p := ⟨w.heap.size, 1, none⟩) cs).trans c1⟩
  clear b0 b1 y0 y1 hs1
  go_cut [5] (fun c wx => ∃ F T V C, c = .pointer (some ⟨C, 0, none⟩) ∧ BuI w2 n zs.length F T V C (fun _ => 0) (fun _ => 0) (fun _ => 0) wx)
  case first =>
    go_region_held (fun w' => w'.cell? ⟨w.heap.size, 0, none⟩ = some (.int .i64 n) ∧ w'.cell? ⟨w.heap.size, 1, none⟩ = some (.slice lo zs.length lc)) (first
      | (exact HKS.out _ (by repeat (first | (with_reducible exact Below.refl _ _) | (with_reducible refine Below.drew ?_) | (with_reducible refine Below.alloc ?_ (by simp <;> omega) _))))) (first | fail)
    all_goals
      go_wp2_with fail
      go_meet
      apply bu_ex rfl
      case c => first | exact at0 _ _ _ _ _ | exact at1 _ _ _ _ _ | exact at2 _ _ _ _ _ | exact at3 _ _ _ _ _
      case f => first | exact at0 _ _ _ _ _ | exact at1 _ _ _ _ _ | exact at2 _ _ _ _ _ | exact at3 _ _ _ _ _
      case t => first | exact at0 _ _ _ _ _ | exact at1 _ _ _ _ _ | exact at2 _ _ _ _ _ | exact at3 _ _ _ _ _
      case v => first | exact at0 _ _ _ _ _ | exact at1 _ _ _ _ _ | exact at2 _ _ _ _ _ | exact at3 _ _ _ _ _
      case b => exact below4 _ _ _ _ _
      case low => omega
      case ne => omega
  case rest =>
    obtain ⟨F, T, V, C, rfl, hd⟩ := hcut
    have HD : Hid (BuI w2 n zs.length F T V C (fun _ => 0) (fun _ => 0) (fun _ => 0) wc) := hd
    clear c0 c1 hmk1 hmk2
    obtain ⟨c0, c1⟩ := HKS.out wc hd.below
    have cs3 : w.heap.size < wc.heap.size := Nat.lt_of_lt_of_le cs hd.below.size
    clear hd
    generalize wc = w3 at *
    go_wp2_with fail
    go_loopw [34] (fun iv wr => ∃ k : Nat, k ≤ zs.length ∧ iv = .int .i64 k ∧ BuI w2 n zs.length F T V C (ffA zs k) (ftA zs k) (fvA zs k) wr) (fun iv _ => zs.length - (intOf iv).toNat)
    case atStart => exact ⟨0, Nat.zero_le _, rfl, HD.out.zero zs⟩
    case round =>
      obtain ⟨k, hk, rfl, hinv⟩ := hrel
      have HI : Hid (BuI w2 n zs.length F T V C (ffA zs k) (ftA zs k) (fvA zs k) wr) := hinv
      clear hinv c0 c1 cs3
      by_cases hlt : k < zs.length
      · obtain ⟨a, ha⟩ : ∃ a, zs[k]? = some a := ⟨zs[k], List.getElem?_eq_getElem hlt⟩
        have hfa := HFI.out.at ha
        obtain ⟨p, q, r, rfl, hp⟩ : ∃ (p : Nat) (q r : Int), a = ((p : Int), q, r) ∧ p < n := by
          obtain ⟨a0, a1, a2⟩ := a
          simp only at hfa
          exact ⟨a0.toNat, a1, a2, by rw [Int.toNat_of_nonneg hfa.1], by omega⟩
        obtain ⟨b, off, hao, hbl, q0, q1, q2⟩ := H2.out.1.at ha
        subst hao
        have d0 := (HI.out.below.cell (p := ⟨b, off + k * 3, none⟩) hbl).trans q0
        have d1 := (HI.out.below.cell (p := ⟨b, off + k * 3 + 1, none⟩) hbl).trans q1
        have d2 := (HI.out.below.cell (p := ⟨b, off + k * 3 + 2, none⟩) hbl).trans q2
        have dl : b < wr.heap.size := Nat.lt_of_lt_of_le hbl HI.out.below.size
        simp only at d0 d1 d2
        obtain ⟨x, hx⟩ : ∃ x, ffA zs k (p + 1) = x := ⟨_, rfl⟩
        have f0 := HI.out.f.cell (show p + 1 < n + 1 by omega)
        have fz := HI.out.f.free (p + 1)
        have fl := HI.out.f.lt
        have cl := lt_of_get HI.out.c
        obtain ⟨c0, c1, c2⟩ := box3 HI.out.c
        have xb := ffA_bound zs k (p + 1)
        rw [hx] at f0 xb
        have HI5 : Hid (∀ wy, Below (wr.setCell ⟨F, p + 1, none⟩ (.int .i64 (x + 1))).heap.size (wr.setCell ⟨F, p + 1, none⟩ (.int .i64 (x + 1))) wy → BuI w2 n zs.length F T V C (fun i => if i = p + 1 then ffA zs k (p + 1) + 1 else ffA zs k i) (ftA zs k) (fvA zs k) wy) := fun wy hy => by
          have h := (HI.out.setF (p + 1) (x + 1)).keep hy
          rw [hx]
          exact h
        have HA : Hid (zs[k]? = some ((p : Int), q, r)) := ha
        have e1 : IntKind.i64.wrap ((p : Int) + 1) = (p : Int) + 1 := by rw [IntKind.wrap_i64] <;> omega
        have e2 : IntKind.i64.wrap (x + 1) = x + 1 := by rw [IntKind.wrap_i64] <;> omega
        have e3 : (p : Int) + 1 < (n : Int) + 1 := by omega
        have e4 : (0 : Int) ≤ (p : Int) + 1 := by omega
        have nFC : ¬ F = C := HI.out.ne.2.2.2.1
        have nCF : ¬ C = F := fun e => nFC e.symm
        clear q0 q1 q2 ha hx hfa
        go_upto_region 9 with fail
        have hal : Below (wr.setCell ⟨F, p + 1, none⟩ (.int .i64 (x + 1))).heap.size (wr.setCell ⟨F, p + 1, none⟩ (.int .i64 (x + 1))) ((wr.setCell ⟨F, p + 1, none⟩ (.int .i64 (x + 1))).alloc (.cells #[.int .i64 p, .int .i64 q, .int .i64 r] 33)) := (Below.refl _ _).alloc (Nat.le_refl _) _
        have HI6 : Hid (BuI w2 n zs.length F T V C (fun i => if i = p + 1 then ffA zs k (p + 1) + 1 else ffA zs k i) (ftA zs k) (fvA zs k) ((wr.setCell ⟨F, p + 1, none⟩ (.int .i64 (x + 1))).alloc (.cells #[.int .i64 p, .int .i64 q, .int .i64 r] 33))) := HI5.out _ hal
        have hnw := heap_new (wr.setCell ⟨F, p + 1, none⟩ (.int .i64 (x + 1))) (.cells #[.int .i64 p, .int .i64 q, .int .i64 r] 33)
        have hsz : (wr.setCell ⟨F, p + 1, none⟩ (.int .i64 (x + 1))).heap.size = wr.heap.size := by simp
        rw [hsz] at hnw
        generalize (wr.setCell ⟨F, p + 1, none⟩ (.int .i64 (x + 1))).alloc (.cells #[.int .i64 p, .int .i64 q, .int .i64 r] 33) = w5 at *
        clear hal hsz d0 d1 d2 dl f0 fz fl cl c0 c1 c2
        obtain ⟨g0, g1, g2⟩ := box3 hnw
        obtain ⟨c0, c1, c2⟩ := box3 HI6.out.c
        have gl := lt_of_get hnw
        have cl := lt_of_get HI6.out.c
        have t0 := HI6.out.t.cell hlt
        have v0 := HI6.out.v.cell hlt
        have tz := HI6.out.t.free k
        have vz := HI6.out.v.free k
        have tl := HI6.out.t.lt
        have vl := HI6.out.v.lt
        have nCT : ¬ C = T := fun e => HI.out.ne.2.2.2.2.1 e.symm
        have nTC : ¬ T = C := HI.out.ne.2.2.2.2.1
        have nCV : ¬ C = V := fun e => HI.out.ne.2.2.2.2.2 e.symm
        have nVC : ¬ V = C := HI.out.ne.2.2.2.2.2
        have nTV : ¬ T = V := HI.out.ne.2.2.1
        have nVT : ¬ V = T := fun e => HI.out.ne.2.2.1 e.symm
        have nGT : ¬ wr.heap.size = T := by have := HI.out.t.lt; omega
        have nTG : ¬ T = wr.heap.size := fun e => nGT e.symm
        have nGV : ¬ wr.heap.size = V := by have := HI.out.v.lt; omega
        have nVG : ¬ V = wr.heap.size := fun e => nGV e.symm
        have HIN : Hid (BuI w2 n zs.length F T V C (ffA zs (k + 1)) (ftA zs (k + 1)) (fvA zs (k + 1)) ((w5.drew.setCell ⟨T, k, none⟩ (.int .i64 q)).setCell ⟨V, k, none⟩ (.int .i64 r))) := (((HI6.out.keep (Below.refl _ w5).drew).setT k q).setV k r).arc HA.out
        have i1 : (k : Int) < (zs.length : Int) := by omega
        have i2 : (0 : Int) ≤ (k : Int) := by omega
        clear hnw
        generalize wr.heap.size = B at *
        go_region_held3 (fun w' => w'.cell? ⟨C, 1, none⟩ = some (.slice (some ⟨T, 0, none⟩) zs.length zs.length) ∧ w'.cell? ⟨C, 2, none⟩ = some (.slice (some ⟨V, 0, none⟩) zs.length zs.length) ∧ w'.cell? ⟨B, 1, none⟩ = some (.int .i64 q) ∧ w'.cell? ⟨B, 2, none⟩ = some (.int .i64 r)) (go_keep) (first | fail)
        all_goals
          go_wp2
          go_roundw
          case rel => exact ⟨k + 1, by omega, by go_num, HIN.out⟩
          case measure => simp [intOf]; omega
      · obtain rfl : k = zs.length := by omega
        have HJ : Hid (BuI w2 n zs.length F T V C (ffB zs 0) (ftA zs zs.length) (fvA zs zs.length) wr) := HI.out.turn HFI.out.zero
        obtain ⟨c0, c1⟩ := HKS.out wr HI.out.below
        have cs4 : w.heap.size < wr.heap.size := Nat.lt_of_lt_of_le cs HI.out.below.size
        clear HI
        generalize wr = w4 at *
        go_wp2_with fail
        go_loopw [63] (fun iv wr => ∃ k : Nat, k ≤ n ∧ iv = .int .i64 k ∧ BuI w2 n zs.length F T V C (ffB zs k) (ftA zs zs.length) (fvA zs zs.length) wr) (fun iv _ => n - (intOf iv).toNat)
        case atStart => exact ⟨0, Nat.zero_le _, rfl, HJ.out⟩
        case round =>
          obtain ⟨k, hk2, rfl, hinv⟩ := hrel
          have HI : Hid (BuI w2 n zs.length F T V C (ffB zs k) (ftA zs zs.length) (fvA zs zs.length) wr) := hinv
          clear hinv c0 c1 cs4
          by_cases hlt2 : k < n
          · obtain ⟨x, hx⟩ : ∃ x, ffB zs k (k + 1) = x := ⟨_, rfl⟩
            obtain ⟨y, hy⟩ : ∃ y, ffB zs k k = y := ⟨_, rfl⟩
            have f0 := HI.out.f.cell (show k + 1 < n + 1 by omega)
            have f1 := HI.out.f.cell (show k < n + 1 by omega)
            have fz := HI.out.f.free (k + 1)
            have fl := HI.out.f.lt
            have cl := lt_of_get HI.out.c
            obtain ⟨c0, c1, c2⟩ := box3 HI.out.c
            have xb := ffB_bound zs k (k + 1)
            have yb := ffB_bound zs k k
            have HIN : Hid (BuI w2 n zs.length F T V C (ffB zs (k + 1)) (ftA zs zs.length) (fvA zs zs.length) (wr.drew.setCell ⟨F, k + 1, none⟩ (.int .i64 (x + y)))) := by
              have h := (HI.out.keep (Below.refl _ wr).drew).node
              rw [hx, hy] at h
              exact h
            rw [hx] at f0 xb
            rw [hy] at f1 yb
            have e1 : IntKind.i64.wrap ((k : Int) + 1) = (k : Int) + 1 := by rw [IntKind.wrap_i64] <;> omega
            have e2 : IntKind.i64.wrap (x + y) = x + y := by rw [IntKind.wrap_i64] <;> omega
            have e3 : (k : Int) + 1 < (n : Int) + 1 := by omega
            have e4 : (0 : Int) ≤ (k : Int) + 1 := by omega
            have e5 : (k : Int) < (n : Int) + 1 := by omega
            have e6 : (0 : Int) ≤ (k : Int) := by omega
            have nFC : ¬ F = C := HI.out.ne.2.2.2.1
            have nCF : ¬ C = F := fun e => nFC e.symm
            clear hx hy
            go_wp2_with fail
            go_region
            all_goals
              go_wp2
              go_roundw
              case rel => exact ⟨k + 1, by omega, by go_num, HIN.out⟩
              case measure => simp [intOf]; omega
          · obtain rfl : k = n := by omega
            have hr := (HI.out.below.block _ (lt_of_get H2.out.2.2.1)).trans H2.out.2.2.1
            obtain ⟨r0, r1, r2, z0, z1, z2⟩ : wr.cell? ⟨w.heap.size + 1, 0, none⟩ = some (.slice none 0 0) ∧ wr.cell? ⟨w.heap.size + 1, 1, none⟩ = some (.slice none 0 0) ∧ wr.cell? ⟨w.heap.size + 1, 2, none⟩ = some (.slice none 0 0) ∧ wr.frozen? ⟨w.heap.size + 1, 0, none⟩ = false ∧ wr.frozen? ⟨w.heap.size + 1, 1, none⟩ = false ∧ wr.frozen? ⟨w.heap.size + 1, 2, none⟩ = false := by simp [World.cell?, World.frozen?, hr]
            have rl := lt_of_get hr
            have cl := lt_of_get HI.out.c
            obtain ⟨c0, c1, c2⟩ := box3 HI.out.c
            have HRR : Hid (type_of% hr) := hr
            clear hr
            go_wp2
            have hw2 : w.heap.size + 1 < w2.heap.size := lt_of_get H2.out.2.2.1
            have hlow := HI.out.low
            have hne := HI.out.ne
            have hbw := H2.out.2.2.2.trans (HI.out.below.mono H2.out.2.2.2.size)
            refine bodyPost_ret (v := .tuple #[.agg #[.slice (some ⟨F, 0, none⟩) (k + 1) (k + 1), .slice (some ⟨T, 0, none⟩) zs.length zs.length, .slice (some ⟨V, 0, none⟩) zs.length zs.length], .nilIface]) (by simp [results, Try.results4, go_sem, r0, r1, r2]) rfl ⟨F, T, V, rfl, ⟨by omega, by omega, by omega, hne.1, hne.2.1, hne.2.2.1⟩, ?_, ?_, ?_, ?_⟩
            · refine (((HI.out.f.other (show F ≠ w.heap.size + 1 by omega) 0 _).other (show F ≠ w.heap.size + 1 by omega) 1 _).other (show F ≠ w.heap.size + 1 by omega) 2 _).congr fun u hu => ?_
              unfold ffB
              rw [if_pos (by omega)]
            · refine (((HI.out.t.other (show T ≠ w.heap.size + 1 by omega) 0 _).other (show T ≠ w.heap.size + 1 by omega) 1 _).other (show T ≠ w.heap.size + 1 by omega) 2 _).congr fun u hu => ?_
              unfold ftA
              rw [if_pos hu]
            · refine (((HI.out.v.other (show V ≠ w.heap.size + 1 by omega) 0 _).other (show V ≠ w.heap.size + 1 by omega) 1 _).other (show V ≠ w.heap.size + 1 by omega) 2 _).congr fun u hu => ?_
              unfold fvA
              rw [if_pos hu]
            · exact ((hbw.setCell (p := ⟨w.heap.size + 1, 0, none⟩) (by simp) _).setCell (p := ⟨w.heap.size + 1, 1, none⟩) (by simp) _).setCell (p := ⟨w.heap.size + 1, 2, none⟩) (by simp) _
end Go.Proofs.Ytefcmpdnlbpjpaa
