/- viaductref11.Distances, walked: the matrix of the plain mathematics. -/
import Derived.Test.YtbkclhaonbjobaaGreatQpX
import Derived.BigRegion
namespace Go.Proofs.YtbkclhaonbjobaaGreat.Dt
open Go.RowKit Go.Extern

attribute [local go_sem] Oper.semAt_some

/-- a row under way. -/
def fA (al : Nat → Bool) (k j : Nat) : Mx := fun a b => if a = k ∧ j ≤ b then 0 else f00 al a b

theorem fA_diag (al : Nat → Bool) (k : Nat) (h : al k = true) : fA al k k = fA al k (k + 1) := by
  funext a b
  unfold fA
  by_cases g1 : a = k
  · by_cases g2 : b = k
    · rw [if_pos ⟨g1, by omega⟩, if_neg (fun g => by omega)]
      unfold f00
      rw [if_pos ⟨by omega, by rw [g1]; exact h⟩]
    · by_cases g3 : k ≤ b
      · rw [if_pos ⟨g1, g3⟩, if_pos ⟨g1, by omega⟩]
      · rw [if_neg (fun g => g3 g.2), if_neg (fun g => g3 (by omega))]
  · rw [if_neg (fun g => g1 g.1), if_neg (fun g => g1 g.1)]
theorem fA_step (al : Nat → Bool) (k j : Nat) (e : k ≠ j ∨ al k = false) : upd2 (fA al k j) k j far = fA al k (j + 1) := by
  funext a b
  unfold upd2 fA
  by_cases g1 : a = k
  · by_cases g2 : b = j
    · rw [if_pos ⟨g1, g2⟩, if_neg (fun g => by omega)]
      unfold f00
      rw [if_neg]
      rintro ⟨h1, h2⟩
      rcases e with e | e
      · omega
      · rw [g1, e] at h2; cases h2
    · rw [if_neg (fun g => g2 g.2)]
      by_cases g3 : j ≤ b
      · rw [if_pos ⟨g1, g3⟩, if_pos ⟨g1, by omega⟩]
      · rw [if_neg (fun g => g3 g.2), if_neg (fun g => g3 (by omega))]
  · rw [if_neg (fun g => g1 g.1), if_neg (fun g => g1 g.1), if_neg (fun g => g1 g.1)]
theorem fA_end (al : Nat → Bool) (k n : Nat) : ∀ a b, a < k + 1 → b < n → fA al k n a b = f00 al a b := fun a b _ hb => by
  unfold fA
  rw [if_neg (fun g => by omega)]
/-- an arc as the matrix takes it. -/
def as3 (a : A4) : Int × Int × Int := (a.1, a.2.1, a.2.2.1)

theorem infoRow : (Tryz.prog.info? 53).map (fun i => (i.zero, i.size, i.bytes)) = some (some (.slice none 0 0), 1, 24) := by kernel_rfl
theorem infoU64 : (Tryz.prog.info? 47).map (fun i => (i.zero, i.size, i.bytes)) = some (some (.int .u64 0), 1, 8) := by kernel_rfl

/-- what holds at each point of the walk. -/
structure DI (w wx : World) (n m : Nat) (rs : Nat → Nat) (f : Mx) (fo : Option Addr) (fc : Nat) (ao : Option Addr) (q cap : Nat) : Prop where
  mat : MatP w.heap.size wx (w.heap.size + 1) n m rs f
  box : wx.heap[w.heap.size]? = some (.cells #[.slice fo n fc, .slice ao q cap] 44)
  below : Below w.heap.size w wx
section
variable {w wx w' : World} {n m : Nat} {rs : Nat → Nat} {f g : Mx} {fo : Option Addr} {fc : Nat} {ao : Option Addr} {q cap : Nat}
theorem DI.ext (h : DI w wx n m rs f fo fc ao q cap) (e : ∀ i j, i < m → j < n → f i j = g i j) : DI w wx n m rs g fo fc ao q cap := ⟨h.mat.ext e, h.box, h.below⟩
theorem DI.later (h : DI w wx n m rs f fo fc ao q cap) (hb : Below wx.heap.size wx w') : DI w w' n m rs f fo fc ao q cap := ⟨h.mat.keep hb, (hb.block _ (lt_of_get h.box)).trans h.box, h.below.trans (hb.mono h.below.size)⟩
theorem DI.gcells (h : DI w wx n m rs f fo fc ao q cap) : wx.cell? ⟨w.heap.size, 0, none⟩ = some (.slice fo n fc) ∧ wx.cell? ⟨w.heap.size, 1, none⟩ = some (.slice ao q cap) ∧ w.heap.size < wx.heap.size := ⟨by simp [World.cell?, h.box], by simp [World.cell?, h.box], lt_of_get h.box⟩
/-- a number is laid. -/
theorem DI.set (h : DI w wx n m rs f fo fc ao q cap) {i : Nat} (hi : i < m) (j : Nat) (v : Int) : DI w (wx.setCell ⟨rs i, j, none⟩ (.int .u64 v)) n m rs (upd2 f i j v) fo fc ao q cap := by
  have hne : w.heap.size ≠ rs i := fun e => by
    have h1 := h.mat.row i hi
    rw [← e, h.box] at h1
    have h2 := Option.some.inj h1
    injection h2 with _ h3
    cases h3
  exact ⟨h.mat.set hi j v, (heap_setCell_other _ _ _ _ hne).trans h.box, h.below.setCell (p := ⟨rs i, j, none⟩) (h.mat.base.2 i hi) _⟩
theorem DI.drew (h : DI w wx n m rs f fo fc ao q cap) : DI w wx.drew n m rs f fo fc ao q cap := h.later ((Below.refl _ _).drew)
end

set_option maxRecDepth 100000 in
set_option maxHeartbeats 16000000 in
theorem dist_calls (n : Nat) (hn : n ≤ 12) (fo : Option Addr) (fc : Nat) (bs : List Bool) (hbs : bs.length = n) (ao : Option Addr) (q cap : Nat) (zs : List A4) (w : World) (hF : HasFl w (.slice fo n fc) bs) (hl : HasA4 w (.slice ao q cap) zs) (hqz : q = zs.length) (hx : ∀ a ∈ zs.map as3, a.1 < n ∧ a.2.1 < n) (hfine : Fine (liv bs) (zs.map as3)) (hm : zs.length ≤ 262144) : Calls Tryz.prog 12 #[.agg #[.slice fo n fc, .slice ao q cap]] w fun e w' => ∃ db rs, e = .returned (.slice (some ⟨db, 0, none⟩) n n) ∧ MatP w.heap.size w' db n n rs (dist n (liv bs) (zs.map as3)) ∧ Below w.heap.size w w' := by
  have HXS : Hid ((∀ a ∈ zs.map as3, a.1 < n ∧ a.2.1 < n) ∧ Fine (liv bs) (zs.map as3) ∧ (zs.map as3).length ≤ 262144 ∧ q = (zs.map as3).length) := ⟨hx, hfine, by rw [List.length_map]; exact hm, by rw [List.length_map]; exact hqz⟩
  have HL : Hid (HasA4 w (.slice ao q cap) zs) := hl
  have HFL : Hid (HasFl w (.slice fo n fc) bs ∧ bs.length = n) := ⟨hF, hbs⟩
  have HBX : Hid (∀ W, w.alloc (.cells #[.slice fo n fc, .slice ao q cap] 44) = W → W.heap[w.heap.size]? = some (.cells #[.slice fo n fc, .slice ao q cap] 44) ∧ Below w.heap.size w W) := fun W e => by rw [← e]; exact ⟨heap_new _ _, bel_one _ _⟩
  obtain ⟨xs, hxs⟩ : ∃ xs, zs.map as3 = xs := ⟨_, rfl⟩
  rw [hxs] at HXS ⊢
  have HZX : Hid (zs.map as3 = xs) := hxs
  obtain ⟨al, hal⟩ : ∃ al, liv bs = al := ⟨_, rfl⟩
  rw [hal] at HXS ⊢
  have HAL : Hid (liv bs = al) := hal
  clear hl hx hfine hm hF hbs hqz hxs hal
  have m1 := run_make_row' (P := Tryz.prog) 35 53 (.slice none 0 0) 24 Tryz.underlying35 infoRow rfl .i64 .i64 n (by omega) (by omega)
  have m2 := run_make_row' (P := Tryz.prog) 53 47 (.int .u64 0) 8 Tryz.underlying53 infoU64 rfl .i64 .i64 n (by omega) (by omega)
  go_enter Tryz.func12, Tryz.ntmps12
  have HW : Hid (∀ W0, (w.alloc (.cells #[.slice fo n fc, .slice ao q cap] 44)).alloc (.cells (madeCells #[.slice none 0 0] n) 53) = W0 → DI w W0 n 0 (fun _ => 0) (f00 al) fo fc ao q cap) := fun W0 e => by
    have s1 : (w.alloc (.cells #[.slice fo n fc, .slice ao q cap] 44)).heap.size = w.heap.size + 1 := by simp
    have hM := MatP.new (w.alloc (.cells #[.slice fo n fc, .slice ao q cap] 44)) n (fun _ => 0) (f00 al)
    have hB : Below (w.alloc (.cells #[.slice fo n fc, .slice ao q cap] 44)).heap.size (w.alloc (.cells #[.slice fo n fc, .slice ao q cap] 44)) _ := (Below.refl _ _).alloc (Nat.le_refl _) (.cells (madeCells #[.slice none 0 0] n) 53)
    rw [e, s1] at hM hB
    exact ⟨⟨hM.top, hM.row, hM.far, hM.inj, by omega, fun i hi => absurd hi (Nat.not_lt_zero _)⟩, (hB.block _ (by omega)).trans (HBX.out _ rfl).1, (HBX.out _ rfl).2.trans (hB.mono (by omega))⟩
  go_wp2_with fail
  generalize hW0 : (w.alloc (.cells #[.slice fo n fc, .slice ao q cap] 44)).alloc (.cells (madeCells #[.slice none 0 0] n) 53) = W0
  have I0 : Hid (type_of% (HW.out W0 hW0)) := HW.out W0 hW0
  clear hW0 HW HBX
  go_loopw [19] (fun iv wr => ∃ (k : Nat) (rs : Nat → Nat), k ≤ n ∧ iv = .int .i64 k ∧ DI w wr n k rs (f00 al) fo fc ao q cap) (fun iv _ => n - (intOf iv).toNat)
  case atStart => exact ⟨0, _, Nat.zero_le _, rfl, I0.out⟩
  case round =>
    obtain ⟨k, rs, hk, rfl, hD⟩ := hrel
    have IA : Hid (DI w wr n k rs (f00 al) fo fc ao q cap) := hD
    obtain ⟨cg0, cg1, cgs⟩ := hD.gcells
    clear hD
    by_cases hlt : k < n
    · have t0 : wr.cell? ⟨w.heap.size + 1, k, none⟩ = some (rowS n k rs k) := by
        rw [(row_cell IA.out.mat.top k).1, List.getElem?_toArray, rowV_get n _ hlt]
      have t1 : wr.frozen? ⟨w.heap.size + 1, k, none⟩ = false := (row_cell IA.out.mat.top k).2
      have t2 : w.heap.size + 1 < wr.heap.size := lt_of_get IA.out.mat.top
      have b0 : (0 : Int) ≤ (k : Int) := by omega
      have b1 : (k : Int) < (n : Int) := by omega
      generalize rowS n k rs k = old at *
      have HN : Hid (∀ W1, (wr.setCell ⟨w.heap.size + 1, k, none⟩ (.slice (some ⟨wr.heap.size, 0, none⟩) n n)).alloc (.cells (madeCells #[.int .u64 0] n) 47) = W1 → ∃ rs', rs' k = wr.heap.size ∧ DI w W1 n (k + 1) rs' (fA al k 0) fo fc ao q cap) := fun W1 e => by
        have hs : (wr.setCell ⟨w.heap.size + 1, k, none⟩ (.slice (some ⟨wr.heap.size, 0, none⟩) n n)).heap.size = wr.heap.size := by simp
        have h3 : ∀ j, j < wr.heap.size → j ≠ w.heap.size + 1 → W1.heap[j]? = wr.heap[j]? := fun j hj hne => by
          rw [← e, Below.heap_alloc _ _ _ (by rw [hs]; exact hj)]
          exact heap_setCell_other _ _ _ _ hne
        have h1 : W1.heap[w.heap.size + 1]? = some (.cells ((rowV n (rowS n k rs)).toArray.setIfInBounds k (.slice (some ⟨wr.heap.size, 0, none⟩) n n)) 53) := by
          rw [← e, Below.heap_alloc _ _ _ (by rw [hs]; exact t2)]
          exact hs_same _ IA.out.mat.top
        have h2 : W1.heap[wr.heap.size]? = some (.cells (madeCells #[.int .u64 0] n) 47) := by
          have h := heap_new (wr.setCell ⟨w.heap.size + 1, k, none⟩ (.slice (some ⟨wr.heap.size, 0, none⟩) n n)) (.cells (madeCells #[.int .u64 0] n) 47)
          rw [e, hs] at h
          exact h
        have hsz : wr.heap.size ≤ W1.heap.size := by rw [← e]; simp
        have hM := IA.out.mat.more IA.out.below.size h1 h2 h3
        refine ⟨_, by simp, hM.ext (fun a b ha _ => ?_), (h3 _ cgs (by omega)).trans IA.out.box, ?_⟩
        · unfold fA
          by_cases e : a = k
          · rw [if_pos e, if_pos ⟨e, Nat.zero_le _⟩]
          · rw [if_neg e, if_neg (fun g => e g.1)]
        · exact IA.out.below.trans ⟨by rw [← e]; rfl, by rw [← e]; rfl, by rw [← e]; rfl, hsz, fun j hj => h3 j (by have := IA.out.below.size; omega) (by omega)⟩
      go_upto_region 7 with fail
      generalize hW1 : (wr.setCell ⟨w.heap.size + 1, k, none⟩ (.slice (some ⟨wr.heap.size, 0, none⟩) n n)).alloc (.cells (madeCells #[.int .u64 0] n) 47) = W1
      obtain ⟨rs', hr', hM1⟩ := HN.out W1 hW1
      have I1 : Hid (DI w W1 n (k + 1) rs' (fA al k 0) fo fc ao q cap) := hM1
      have HR : Hid (rs' k = wr.heap.size) := hr'
      obtain ⟨t3, _, _⟩ := hM1.mat.at (i := k) (by omega) (by omega)
      rw [hr'] at t3
      clear hW1 HN t0 t1 t2 cg0 cg1 cgs hM1 hr'
      generalize wr.heap.size = r at *
      go_wp2_with fail
      generalize hWX : wr = WX at *
      clear hWX
      go_loopw [32] (fun jv wx => ∃ j : Nat, j ≤ n ∧ jv = .int .i64 j ∧ DI w wx n (k + 1) rs' (fA al k j) fo fc ao q cap) (fun jv _ => n - (intOf jv).toNat)
      case atStart => exact ⟨0, Nat.zero_le _, rfl, I1.out⟩
      case round =>
        obtain ⟨j, hj, rfl, hD⟩ := hrel
        have IB : Hid (DI w wr n (k + 1) rs' (fA al k j) fo fc ao q cap) := hD
        by_cases hjl : j < n
        · obtain ⟨t4, _, _⟩ := hD.mat.at (i := k) (by omega) (by omega)
          obtain ⟨t5, t6, t7⟩ := hD.mat.cell (i := k) (j := j) (by omega) hjl
          rw [HR.out] at t4 t5 t6 t7
          have b2 : (0 : Int) ≤ (j : Int) := by omega
          have b3 : (j : Int) < (n : Int) := by omega
          clear hD
          obtain ⟨gf, hfo, gfl, gfc⟩ := (HFL.out.1.keep IB.out.below).at (m := k) (by have := HFL.out.2; omega)
          subst hfo
          obtain ⟨cg0, cg1, cgs⟩ := IB.out.gcells
          rw [HAL.out] at gfc
          obtain ⟨bk, hbk⟩ : ∃ bk, al k = bk := ⟨_, rfl⟩
          rw [hbk] at gfc
          by_cases e : k = j
          · subst e
            cases bk with
            | true =>
              have HE : Hid (DI w wr n (k + 1) rs' (fA al k (k + 1)) (some ⟨gf, 0, none⟩) fc ao q cap) := by have h := IB.out; rw [fA_diag al k hbk] at h; exact h
              clear hbk
              go_wp2
              go_roundw
              case rel => exact ⟨k + 1, by omega, by go_num, HE.out⟩
              case measure => simp [intOf]; omega
            | false =>
              have HS : Hid (DI w (wr.setCell ⟨rs' k, k, none⟩ (.int .u64 far)) n (k + 1) rs' (upd2 (fA al k k) k k far) (some ⟨gf, 0, none⟩) fc ao q cap) := IB.out.set (by omega) k far
              rw [HR.out, fA_step al k k (Or.inr hbk)] at HS
              unfold far at HS
              clear hbk
              go_wp2
              exact ⟨⟨k + 1, by omega, by go_num, HS.out⟩, by simp [intOf]; omega⟩
          · have e1 : ((k : Int) == (j : Int)) = false := by simp; omega
            have e2 : ((k : Int) != (j : Int)) = true := by simp; omega
            have HS : Hid (DI w (wr.setCell ⟨rs' k, j, none⟩ (.int .u64 far)) n (k + 1) rs' (upd2 (fA al k j) k j far) (some ⟨gf, 0, none⟩) fc ao q cap) := IB.out.set (by omega) j far
            rw [HR.out, fA_step al k j (Or.inl e)] at HS
            unfold far at HS
            clear hbk gfc
            go_wp2
            exact ⟨⟨j + 1, by omega, by go_num, HS.out⟩, by simp [intOf]; omega⟩
        · obtain rfl : j = n := by omega
          have HE : Hid (DI w wr j (k + 1) rs' (f00 al) fo fc ao q cap) := IB.out.ext (fA_end al k j)
          clear hD
          go_wp2
          exact ⟨⟨k + 1, rs', by omega, by go_num, HE.out⟩, by simp [intOf]; omega⟩
    · obtain rfl : n = k := by omega
      generalize hWX : wr = WX at *
      clear hWX
      go_wp2_with fail
      go_loopw [57] (fun iv wx => ∃ k : Nat, k ≤ q ∧ iv = .int .i64 k ∧ DI w wx n n rs (ini al (xs.take k)) fo fc ao q cap) (fun iv _ => q - (intOf iv).toNat)
      case atStart => exact ⟨0, Nat.zero_le _, rfl, IA.out⟩
      case round =>
        obtain ⟨k, hkq, rfl, hD⟩ := hrel
        have IB : Hid (DI w wr n n rs (ini al (xs.take k)) fo fc ao q cap) := hD
        clear hD
        by_cases hkl : k < q
        · obtain ⟨a, ha⟩ : ∃ a, xs[k]? = some a := ⟨xs[k]'(by have := HXS.out.2.2.2; omega), List.getElem?_eq_getElem _⟩
          have hmem := List.mem_of_getElem? ha
          obtain ⟨z, hz, hza⟩ : ∃ z, zs[k]? = some z ∧ as3 z = a := by
            have h := ha
            rw [← HZX.out, List.getElem?_map] at h
            cases hzk : zs[k]? with
            | none => rw [hzk] at h; cases h
            | some z => rw [hzk] at h; exact ⟨z, rfl, Option.some.inj h⟩
          obtain ⟨ba, off, hao, hbl, q0, q1, q2, q3⟩ := HL.out.at hz
          subst hao
          have e3 := (IB.out.below.cell (p := ⟨ba, off + k * 4 + 3, none⟩) hbl).trans q3
          have e0 := (IB.out.below.cell (p := ⟨ba, off + k * 4, none⟩) hbl).trans q0
          have e1 := (IB.out.below.cell (p := ⟨ba, off + k * 4 + 1, none⟩) hbl).trans q1
          have e2 := (IB.out.below.cell (p := ⟨ba, off + k * 4 + 2, none⟩) hbl).trans q2
          obtain ⟨l0, l1⟩ := HXS.out.1 a hmem
          obtain ⟨p0, p1, p2, p3, p4, p5⟩ := HXS.out.2.1 a hmem
          have HT : Hid (ini al (xs.take (k + 1)) = arcF (ini al (xs.take k)) a) := by
            show _ = _
            obtain ⟨hl', he'⟩ := List.getElem?_eq_some_iff.1 ha
            rw [List.take_succ_eq_append_getElem hl', he', ini_snoc]
          obtain ⟨x0, x1, x2, x3⟩ := z
          unfold as3 at hza
          subst hza
          simp only at e0 e1 e2 e3 l0 l1 p0 p1 p2 p3
          obtain ⟨A, rfl⟩ : ∃ A : Nat, x0 = A := ⟨x0.toNat, by omega⟩
          obtain ⟨B, rfl⟩ : ∃ B : Nat, x1 = B := ⟨x1.toNat, by omega⟩
          have hA : A < n := by omega
          have hB : B < n := by omega
          have b0 : (0 : Int) ≤ (k : Int) := by omega
          have b1 : (k : Int) < (q : Int) := by omega
          have HP : Hid (∀ W1, wr.alloc (.cells #[.int .i64 (A : Int), .int .i64 (B : Int), .int .u64 x2, .int .i64 x3] 51) = W1 → DI w W1 n n rs (ini al (xs.take k)) fo fc (some ⟨ba, off, none⟩) q cap ∧ W1.heap[wr.heap.size]? = some (.cells #[.int .i64 (A : Int), .int .i64 (B : Int), .int .u64 x2, .int .i64 x3] 51)) := fun W1 e => by
            have k0 := heap_new wr (.cells #[.int .i64 (A : Int), .int .i64 (B : Int), .int .u64 x2, .int .i64 x3] 51)
            have hb := (Below.refl _ wr).alloc (Nat.le_refl _) (.cells #[.int .i64 (A : Int), .int .i64 (B : Int), .int .u64 x2, .int .i64 x3] 51)
            rw [e] at k0 hb
            exact ⟨IB.out.later hb, k0⟩
          clear ha hmem q0 q1 q2 q3 hz p4 p5
          go_upto_region 17 with fail
          generalize hW1 : wr.alloc (.cells #[.int .i64 (A : Int), .int .i64 (B : Int), .int .u64 x2, .int .i64 x3] 51) = W1
          obtain ⟨hD1, h1⟩ := HP.out W1 hW1
          have I1 : Hid (DI w W1 n n rs (ini al (xs.take k)) fo fc (some ⟨ba, off, none⟩) q cap) := hD1
          obtain ⟨d0, d1, d2⟩ : W1.cell? ⟨wr.heap.size, 0, none⟩ = some (.int .i64 A) ∧ W1.cell? ⟨wr.heap.size, 1, none⟩ = some (.int .i64 B) ∧ W1.cell? ⟨wr.heap.size, 2, none⟩ = some (.int .u64 x2) := by simp [World.cell?, h1]
          have ds : wr.heap.size < W1.heap.size := lt_of_get h1
          obtain ⟨t0, _, ts⟩ := hD1.mat.at (i := A) hA (Nat.le_refl _)
          obtain ⟨t1, t2, t3⟩ := hD1.mat.cell (i := A) (j := B) hA hB
          have HS : Hid (∀ v, DI w (W1.setCell ⟨rs A, B, none⟩ (.int .u64 v)) n n rs (upd2 (ini al (xs.take k)) A B v) fo fc (some ⟨ba, off, none⟩) q cap) := fun v => hD1.set hA B v
          have hne : rs A ≠ w.heap.size + 1 := hD1.mat.far A hA
          have hne2 : rs A ≠ wr.heap.size := fun e => by
            have h2 := hD1.mat.row A hA
            rw [e, h1] at h2
            have h3 := Option.some.inj h2
            injection h3 with _ h4
            cases h4
          have a0 : (0 : Int) ≤ (A : Int) := by omega
          have a1 : (A : Int) < (n : Int) := by omega
          have a2 : (0 : Int) ≤ (B : Int) := by omega
          have a3 : (B : Int) < (n : Int) := by omega
          clear hW1 HP e0 e1 e2 e3 h1 hD1
          have HC : Hid (ini al (xs.take (k + 1)) = upd2 (ini al (xs.take k)) A B (min (ini al (xs.take k) A B) x2)) := HT.out
          generalize ini al (xs.take k) A B = old at *
          generalize rs A = ra at *
          generalize wr.heap.size = ub at *
          have hqb : q ≤ 262144 := by have h := HXS.out; omega
          go_region
          go_wp2
          go_roundw
          case rel => exact ⟨k + 1, by omega, by go_num, by rw [HC.out]; exact (HS.out _).drew⟩
          case measure => simp [intOf]; omega
        · obtain rfl : q = k := by omega
          have hq := HXS.out.2.2.2
          have IC : Hid (DI w wr n n rs (ini al xs) fo fc ao q cap) := by have h := IB.out; rw [hq, List.take_length, ← hq] at h; exact h
          have HGD : Hid (Good (ini al xs)) := ini_good HXS.out.2.1
          clear hq IB IA
          generalize hWY : wr = WY at *
          clear hWY
          go_wp2_with fail
          go_loopw [84] (fun iv wx => ∃ k : Nat, k ≤ n ∧ iv = .int .i64 k ∧ DI w wx n n rs (phs (ini al xs) k) fo fc ao q cap) (fun iv _ => n - (intOf iv).toNat)
          case atStart => exact ⟨0, Nat.zero_le _, rfl, IC.out⟩
          case round =>
            obtain ⟨k, hk1, rfl, hD⟩ := hrel
            have IK : Hid (DI w wr n n rs (phs (ini al xs) k) fo fc ao q cap) := hD
            clear hD
            by_cases hkn : k < n
            · have HGK : Hid (Good (phs (ini al xs) k)) := phs_good HGD.out k
              have HNX : Hid (phs (ini al xs) (k + 1) = ph (phs (ini al xs) k) k) := rfl
              generalize phs (ini al xs) k = f at *
              generalize hWZ : wr = WZ at *
              clear hWZ
              have k0' : (0 : Int) ≤ (k : Int) := by omega
              have k1' : (k : Int) < (n : Int) := by omega
              go_wp2_with fail
              go_loopw [89] (fun iv wx => ∃ i : Nat, i ≤ n ∧ iv = .int .i64 i ∧ DI w wx n n rs (part f k i 0) fo fc ao q cap) (fun iv _ => n - (intOf iv).toNat)
              case atStart => exact ⟨0, Nat.zero_le _, rfl, by rw [part_zero]; exact IK.out⟩
              case round =>
                obtain ⟨i, hi1, rfl, hD⟩ := hrel
                have II : Hid (DI w wr n n rs (part f k i 0) fo fc ao q cap) := hD
                clear hD
                by_cases hin : i < n
                · have i0' : (0 : Int) ≤ (i : Int) := by omega
                  have i1' : (i : Int) < (n : Int) := by omega
                  generalize hWV : wr = WV at *
                  clear hWV
                  go_wp2_with fail
                  go_loopw [94] (fun iv wx => ∃ j : Nat, j ≤ n ∧ iv = .int .i64 j ∧ DI w wx n n rs (part f k i j) fo fc ao q cap) (fun iv _ => n - (intOf iv).toNat)
                  case atStart => exact ⟨0, Nat.zero_le _, rfl, II.out⟩
                  case round =>
                    obtain ⟨j, hj1, rfl, hD⟩ := hrel
                    have IJ : Hid (DI w wr n n rs (part f k i j) fo fc ao q cap) := hD
                    by_cases hjn : j < n
                    · have j0' : (0 : Int) ≤ (j : Int) := by omega
                      have j1' : (j : Int) < (n : Int) := by omega
                      obtain ⟨t0, _, ts⟩ := hD.mat.at (i := i) hin (Nat.le_refl _)
                      obtain ⟨t1, _, _⟩ := hD.mat.at (i := k) hkn (Nat.le_refl _)
                      obtain ⟨c0, _, _⟩ := hD.mat.cell (i := i) (j := k) hin hkn
                      obtain ⟨c1, _, _⟩ := hD.mat.cell (i := k) (j := j) hkn hjn
                      obtain ⟨c2, z2, s2⟩ := hD.mat.cell (i := i) (j := j) hin hjn
                      rw [part_col HGK.out] at c0
                      rw [part_row HGK.out] at c1
                      rw [part_at] at c2
                      have HS : Hid (∀ v, DI w (wr.setCell ⟨rs i, j, none⟩ (.int .u64 v)) n n rs (upd2 (part f k i j) i j v) fo fc ao q cap) := fun v => hD.set hin j v
                      clear hD
                      have HPH : Hid (ph f k i j = if f i k ≠ far ∧ f k j ≠ far then min (f i j) (IntKind.u64.wrap (f i k + f k j)) else f i j) := rfl
                      have HSAME : Hid (ph f k i j = f i j → part f k i j = part f k i (j + 1)) := part_same f k i j
                      have HSTEP : Hid (upd2 (part f k i j) i j (ph f k i j) = part f k i (j + 1)) := part_step f k i j
                      generalize f i k = x at *
                      generalize f k j = y at *
                      generalize hz : f i j = z at *
                      generalize rs i = ri at *
                      generalize rs k = rk at *
                      unfold far at HPH
                      by_cases hx : x = 18446744073709551615
                      · subst hx
                        rw [if_neg (fun g => g.1 rfl)] at HPH
                        have HE : Hid (DI w wr n n rs (part f k i (j + 1)) fo fc ao q cap) := by have h := IJ.out; rw [HSAME.out (by rw [HPH.out])] at h; exact h
                        clear HSAME HSTEP
                        go_wp2
                        exact ⟨⟨j + 1, by omega, by go_num, HE.out⟩, by simp [intOf]; omega⟩
                      · have hx' : (x == 18446744073709551615) = false := by simpa using hx
                        by_cases hy : y = 18446744073709551615
                        · subst hy
                          rw [if_neg (fun g => g.2 rfl)] at HPH
                          have HE : Hid (DI w wr n n rs (part f k i (j + 1)) fo fc ao q cap) := by have h := IJ.out; rw [HSAME.out (by rw [HPH.out])] at h; exact h
                          clear HSAME HSTEP
                          go_wp2
                          exact ⟨⟨j + 1, by omega, by go_num, HE.out⟩, by simp [intOf]; omega⟩
                        · have hy' : (y == 18446744073709551615) = false := by simpa using hy
                          have hx2 : (x != 18446744073709551615) = true := by simpa using hx
                          have hy2 : (y != 18446744073709551615) = true := by simpa using hy
                          rw [if_pos ⟨hx, hy⟩] at HPH
                          have HE : Hid (DI w (wr.setCell ⟨ri, j, none⟩ (.int .u64 (min z (IntKind.u64.wrap (x + y))))) n n rs (part f k i (j + 1)) fo fc ao q cap) := by
                            have h := HS.out (min z (IntKind.u64.wrap (x + y)))
                            rw [← HPH.out, HSTEP.out] at h
                            rw [HPH.out] at h
                            exact h
                          clear HSAME HSTEP HPH HS
                          go_wp2_with fail
                          go_region
                          go_wp2
                          exact ⟨⟨j + 1, by omega, by go_num, HE.out.drew⟩, by simp [intOf]; omega⟩
                    · obtain rfl : n = j := by omega
                      have HE : Hid (DI w wr n n rs (part f k (i + 1) 0) fo fc ao q cap) := IJ.out.ext (part_line f k i n)
                      clear hD
                      go_wp2
                      exact ⟨⟨i + 1, by omega, by go_num, HE.out⟩, by simp [intOf]; omega⟩
                · obtain rfl : n = i := by omega
                  have HE : Hid (DI w wr n n rs (phs (ini al xs) (k + 1)) fo fc ao q cap) := by rw [HNX.out]; exact II.out.ext (part_all f k n)
                  go_wp2
                  exact ⟨⟨k + 1, by omega, by go_num, HE.out⟩, by simp [intOf]; omega⟩
            · obtain rfl : n = k := by omega
              go_wp2
              go_ret
              exact ⟨_, rs, rfl, IK.out.mat, IK.out.below⟩
end Go.Proofs.YtbkclhaonbjobaaGreat.Dt
