/- an overlay's Put. -/
import Derived.Test.YtnclegldhafaeaaGreatDoorOvT
namespace Go.Proofs.YtnclegldhafaeaaGreatDoor
open Go.RowKit Go.Extern Go.Sort

attribute [local go_sem] Oper.semAt_some

theorem insH_rise {l : List H3} {a : H3} (hr : RiseH l) (h : hasH l a.1 = false) : RiseH (insH l (lowH l a.1) a) := by
  have hl : ∀ (l : List H3), RiseH l → (∀ b ∈ l, b.1 ≠ a.1) → RiseH (insH l (lowH l a.1) a) ∧ insH l (lowH l a.1) a = l.filter (fun b => decide (b.1 < a.1)) ++ a :: l.filter (fun b => !decide (b.1 < a.1)) := by
    intro l
    induction l with
    | nil => intro _ _; exact ⟨by simp [insH, RiseH], by simp [insH]⟩
    | cons b r ih =>
      intro hr hn
      obtain ⟨h1, h2⟩ := List.pairwise_cons.1 hr
      have hb := hn b (by simp)
      obtain ⟨i1, i2⟩ := ih h2 (fun c hc => hn c (by simp [hc]))
      by_cases hlt : b.1 < a.1
      · have e : lowH (b :: r) a.1 = lowH r a.1 + 1 := by unfold lowH; rw [List.countP_cons_of_pos (by simpa using hlt)]
        have e2 : insH (b :: r) (lowH (b :: r) a.1) a = b :: insH r (lowH r a.1) a := by rw [e]; rfl
        rw [e2]
        refine ⟨List.pairwise_cons.2 ⟨fun c hc => ?_, i1⟩, ?_⟩
        · unfold insH at hc
          rw [List.mem_append, List.mem_cons] at hc
          rcases hc with hc | rfl | hc
          · exact h1 c (List.mem_of_mem_take hc)
          · exact hlt
          · exact h1 c (List.mem_of_mem_drop hc)
        · rw [i2]
          simp [hlt]
      · have hge : a.1 < b.1 := by omega
        have all : ∀ c ∈ b :: r, a.1 < c.1 := fun c hc => by
          rw [List.mem_cons] at hc
          rcases hc with rfl | hc
          · exact hge
          · have := h1 c hc
            omega
        have e : lowH (b :: r) a.1 = 0 := by
          unfold lowH
          rw [List.countP_eq_zero]
          intro c hc
          have := all c hc
          simp
          omega
        have e2 : insH (b :: r) (lowH (b :: r) a.1) a = a :: b :: r := by rw [e]; rfl
        rw [e2]
        refine ⟨List.pairwise_cons.2 ⟨all, hr⟩, ?_⟩
        rw [List.filter_eq_nil_iff.2 (fun c hc => by have := all c hc; simp; omega), List.filter_eq_self.2 (fun c hc => by have := all c hc; simp; omega)]
        rfl
  refine (hl l hr (fun b hb e => ?_)).1
  have := List.any_eq_false.1 h b hb
  simp [e] at this
theorem setH_rise {l : List H3} {a : H3} (hr : RiseH l) : RiseH (setH l a) := by
  unfold setH
  split
  · rename_i h
    obtain ⟨h1, h2⟩ := hasH_low hr h
    have e : (l.set (lowH l a.1) a).map (·.1) = l.map (·.1) := by
      rw [List.map_set]
      apply List.ext_getElem?
      intro i
      rw [List.getElem?_set]
      split
      · subst_vars
        rw [List.length_map, if_pos h1, List.getElem?_map, List.getElem?_eq_getElem h1]
        simp [h2 _ (List.getElem?_eq_getElem h1)]
      · rfl
    have h3 : (l.map (·.1)).Pairwise (· < ·) := List.pairwise_map.2 hr
    rw [← e] at h3
    exact List.pairwise_map.1 h3
  · rename_i h
    exact insH_rise hr (by simpa using h)
theorem setH_mem {l : List H3} {a b : H3} (h : b ∈ setH l a) : b = a ∨ b ∈ l := by
  unfold setH at h
  split at h
  · exact (List.mem_or_eq_of_mem_set h).symm
  · unfold insH at h
    rw [List.mem_append, List.mem_cons] at h
    rcases h with h | h | h
    · exact Or.inr (List.mem_of_mem_take h)
    · exact Or.inl h
    · exact Or.inr (List.mem_of_mem_drop h)
theorem setH_len (l : List H3) (a : H3) : l.length ≤ (setH l a).length := by
  unfold setH
  split
  · simp
  · rw [insH_len (lowH_le _ _)]
    omega
theorem RowsOk.set {n : Nat} {R : Bool → Nat → Rw} (hk : RowsOk n R) (s : Bool) {u : Nat} (v' : Value) {a : H3} (h0 : 0 ≤ a.1) (h1 : a.1 < (n : Int)) : RowsOk n (updS R s u (v', setH (R s u).2.1 a, (R s u).2.2)) := by
  refine ⟨fun s' u' hu' => ?_, fun s' u' hu' => ?_, fun s' u' hu' => ?_⟩
  all_goals
    by_cases e : (s', u') = (s, u)
    · cases e
      rw [updS_at]
      first
        | exact setH_rise (hk.rise s u hu')
        | (intro b hb
           rcases setH_mem hb with rfl | hb
           · exact ⟨h0, h1⟩
           · exact hk.node s u hu' b hb)
        | exact Nat.le_trans (hk.gone s u hu') (setH_len _ _)
    · rw [updS_other _ _ _ _ _ _ e]
      first
        | exact hk.rise s' u' hu'
        | exact hk.node s' u' hu'
        | exact hk.gone s' u' hu'
section
variable {w w' : World} {PX : Nat → Option Obj} {B pb ab n : Nat} {sb : Bool → Nat} {bs : List Bool} {R : Bool → Nat → Rw} {nodes arcs : Int}
set_option maxRecDepth 100000 in
set_option maxHeartbeats 2000000 in
theorem oPutErr (h : OvMem PX w B pb ab sb n bs R nodes arcs) (x y wt via : Int) (hp : putErr n bs x y wt via ≠ 0) : Calls Tryz.prog 19 #[.pointer (some ⟨pb, 0, none⟩), .int .i64 x, .int .i64 y, .int .u64 wt, .int .i64 via] w fun e w' => e = .returned (.tuple #[.bool false, .iface 73 (.int .i64 (putErr n bs x y wt via))]) ∧ w' = w := by
  have hc := checkPut_calls h x y wt via
  have e0 : errV (putErr n bs x y wt via) = .iface 73 (.int .i64 (putErr n bs x y wt via)) := by unfold errV; rw [if_neg hp]
  rw [e0] at hc
  have HC : Hid (type_of% hc) := hc
  generalize putErr n bs x y wt via = c at *
  clear h hc e0
  go_enter Tryz.func19, Tryz.ntmps19
  go_wp2_with fail
  refine HC.out.mono ?_
  rintro e w1 ⟨rfl, hw1⟩
  subst hw1
  go_wp2
  go_ret2
  exact ⟨rfl, rfl⟩
set_option maxRecDepth 100000 in
set_option maxHeartbeats 2000000 in
theorem oPutKeep (h : OvMem PX w B pb ab sb n bs R nodes arcs) (hk : RowsOk n R) (x y wt via : Int) (hp : putErr n bs x y wt via = 0) (k : Int) (hw : weightM n bs R x y = some k) (hkw : k ≤ wt) : Calls Tryz.prog 19 #[.pointer (some ⟨pb, 0, none⟩), .int .i64 x, .int .i64 y, .int .u64 wt, .int .i64 via] w fun e w' => e = .returned (.tuple #[.bool false, .nilIface]) ∧ Below w.heap.size w w' := by
  have hc := checkPut_calls h x y wt via
  rw [hp, show errV 0 = .nilIface from rfl] at hc
  have HC : Hid (type_of% hc) := hc
  have hw' := weight_calls h hk x y
  rw [hw] at hw'
  simp only [Option.getD_some, Option.isSome_some] at hw'
  have HW : Hid (type_of% hw') := hw'
  clear h hc hw' hw hp
  go_enter Tryz.func19, Tryz.ntmps19
  go_wp2_with fail
  refine HC.out.mono ?_
  rintro e w1 ⟨rfl, hw1⟩
  subst hw1
  go_wp2_with fail
  refine HW.out.mono ?_
  rintro e w2 ⟨rfl, hb⟩
  have HB : Hid (type_of% hb) := hb
  clear hb
  go_wp2
  go_ret2
  exact ⟨rfl, HB.out⟩
theorem putErr_zero {n : Nat} {bs : List Bool} {x y wt via : Int} (hp : putErr n bs x y wt via = 0) : ∃ a b : Nat, x = (a : Int) ∧ y = (b : Int) ∧ a < n ∧ b < n ∧ x ≠ y ∧ aliveB n bs x = true ∧ aliveB n bs y = true := by
  unfold putErr at hp
  split at hp
  · rename_i h
    split at hp
    · cases hp
    · rename_i hne
      have h1 := h.1
      have h2 := h.2
      simp [aliveB, isN] at h1 h2
      exact ⟨x.toNat, y.toNat, by omega, by omega, by omega, by omega, hne, h.1, h.2⟩
  · cases hp
set_option maxRecDepth 100000 in
set_option maxHeartbeats 2000000 in
theorem oPutNew (h : OvMem PX w B pb ab sb n bs R nodes arcs) (hk : RowsOk n R) (x y wt via : Int) (hp : putErr n bs x y wt via = 0) (hw : weightM n bs R x y = none) (ha : -4611686018427387904 ≤ arcs ∧ arcs ≤ 4611686018427387904) : Calls Tryz.prog 19 #[.pointer (some ⟨pb, 0, none⟩), .int .i64 x, .int .i64 y, .int .u64 wt, .int .i64 via] w fun e w' => e = .returned (.tuple #[.bool true, .nilIface]) ∧ ∃ v1 v2, OvMem PX w' B pb ab sb n bs (updS (updS R false x.toNat (v1, setH (R false x.toNat).2.1 (y, wt, via), (R false x.toNat).2.2)) true y.toNat (v2, setH (R true y.toNat).2.1 (x, wt, via), (R true y.toNat).2.2)) nodes (arcs + 1) ∧ Below B w w' := by
  have hc := checkPut_calls h x y wt via
  rw [hp, show errV 0 = .nilIface from rfl] at hc
  have HC : Hid (type_of% hc) := hc
  have hw' := weight_calls h hk x y
  rw [hw] at hw'
  obtain ⟨a, b, rfl, rfl, han, hbn, hab, _, _⟩ := putErr_zero hp
  simp only [Int.toNat_natCast]
  simp only [Option.getD_none, Option.isSome_none] at hw'
  have HW : Hid (type_of% hw') := hw'
  have HM : Hid (OvMem PX w B pb ab sb n bs R nodes arcs) := h
  have HS1 : Hid (∀ wx ar, OvMem PX wx B pb ab sb n bs R nodes ar → Calls Tryz.prog 40 #[.pointer (some ⟨sb false, a * 2, none⟩), .agg #[.int .i64 (b : Int), .int .u64 wt, .int .i64 via]] wx fun e w' => e = .returned (.tuple #[]) ∧ ∃ v', OvMem PX w' B pb ab sb n bs (updS R false a (v', setH (R false a).2.1 ((b : Int), wt, via), (R false a).2.2)) nodes ar ∧ Below B wx w') := fun wx ar hx => hx.set hk false han ((b : Int), wt, via)
  have HS2 : Hid (∀ wx ar v1, OvMem PX wx B pb ab sb n bs (updS R false a (v1, setH (R false a).2.1 ((b : Int), wt, via), (R false a).2.2)) nodes ar → Calls Tryz.prog 40 #[.pointer (some ⟨sb true, b * 2, none⟩), .agg #[.int .i64 (a : Int), .int .u64 wt, .int .i64 via]] wx fun e w' => e = .returned (.tuple #[]) ∧ ∃ v', OvMem PX w' B pb ab sb n bs (updS (updS R false a (v1, setH (R false a).2.1 ((b : Int), wt, via), (R false a).2.2)) true b (v', setH (R true b).2.1 ((a : Int), wt, via), (R true b).2.2)) nodes ar ∧ Below B wx w') := fun wx ar v1 hx => by
    have h1 := hx.set (hk.set false v1 (a := ((b : Int), wt, via)) (by simp) (by simp; omega)) true hbn ((a : Int), wt, via)
    rw [updS_far R false true a _ (by simp)] at h1
    exact h1
  have i1 : (a : Int) < (n : Int) := by omega
  have i2 : (0 : Int) ≤ (a : Int) := by omega
  have i3 : (b : Int) < (n : Int) := by omega
  have i4 : (0 : Int) ≤ (b : Int) := by omega
  have i5 : IntKind.i64.wrap (arcs + 1) = arcs + 1 := by rw [IntKind.wrap_i64] <;> omega
  have hBz := h.size
  clear h hc hw' hw hp hk han hbn ha hab
  go_enter Tryz.func19, Tryz.ntmps19
  go_wp2_with fail
  refine HC.out.mono ?_
  rintro e w1 ⟨rfl, hw1⟩
  subst hw1
  go_wp2_with fail
  refine HW.out.mono ?_
  rintro e w2 ⟨rfl, hb⟩
  have M2 := HM.out.keep hb
  have HM2 : Hid (type_of% M2) := M2
  have HB : Hid (Below B w1 w2) := hb.mono hBz
  obtain ⟨c0, c1, c2, c3, c4, cs⟩ := M2.cells
  have cf : w2.frozen? ⟨pb, 4, none⟩ = false := by simp [World.frozen?, M2.box]
  have M3 := M2.setArcs (arcs + 1)
  obtain ⟨W3, hW3⟩ : ∃ W3, w2.setCell ⟨pb, 4, none⟩ (.int .i64 (arcs + 1)) = W3 := ⟨_, rfl⟩
  rw [hW3] at M3
  have HM3 : Hid (type_of% M3) := M3
  have H3 : Hid (w2.setCell ⟨pb, 4, none⟩ (.int .i64 (arcs + 1)) = W3) := hW3
  obtain ⟨d0, d1, d2, d3, d4, ds⟩ := M3.1.cells
  clear M2 M3 hb hW3
  go_wp2_with fail
  refine (HS1.out _ (arcs + 1) (by rw [H3.out]; exact HM3.out.1)).mono ?_
  rw [H3.out]
  rintro e w4 ⟨rfl, v1, M4, b4⟩
  have HM4 : Hid (type_of% M4) := M4
  have H4 : Hid (Below B w1 w4) := (HB.out.trans (HM3.out.2.trans b4))
  obtain ⟨x0, x1, x2, x3, x4, xs⟩ := M4.cells
  clear M4 b4
  go_wp2_with fail
  refine (HS2.out _ _ v1 HM4.out).mono ?_
  rintro e w5 ⟨rfl, v2, M5, b5⟩
  have HM5 : Hid (type_of% M5) := M5
  have H5 : Hid (Below B w1 w5) := H4.out.trans b5
  clear M5 b5
  go_wp2
  go_ret2
  exact ⟨rfl, v1, v2, HM5.out, H5.out⟩
set_option maxRecDepth 100000 in
set_option maxHeartbeats 2000000 in
theorem oPutLess (h : OvMem PX w B pb ab sb n bs R nodes arcs) (hk : RowsOk n R) (x y wt via : Int) (hp : putErr n bs x y wt via = 0) (k : Int) (hw : weightM n bs R x y = some k) (hkw : wt < k) (ha : -4611686018427387904 ≤ arcs ∧ arcs ≤ 4611686018427387904) : Calls Tryz.prog 19 #[.pointer (some ⟨pb, 0, none⟩), .int .i64 x, .int .i64 y, .int .u64 wt, .int .i64 via] w fun e w' => e = .returned (.tuple #[.bool true, .nilIface]) ∧ ∃ v1 v2, OvMem PX w' B pb ab sb n bs (updS (updS R false x.toNat (v1, setH (R false x.toNat).2.1 (y, wt, via), (R false x.toNat).2.2)) true y.toNat (v2, setH (R true y.toNat).2.1 (x, wt, via), (R true y.toNat).2.2)) nodes (arcs) ∧ Below B w w' := by
  have hc := checkPut_calls h x y wt via
  rw [hp, show errV 0 = .nilIface from rfl] at hc
  have HC : Hid (type_of% hc) := hc
  have hw' := weight_calls h hk x y
  rw [hw] at hw'
  obtain ⟨a, b, rfl, rfl, han, hbn, hab, _, _⟩ := putErr_zero hp
  simp only [Int.toNat_natCast]
  simp only [Option.getD_some, Option.isSome_some] at hw'
  have HW : Hid (type_of% hw') := hw'
  have HM : Hid (OvMem PX w B pb ab sb n bs R nodes arcs) := h
  have HS1 : Hid (∀ wx ar, OvMem PX wx B pb ab sb n bs R nodes ar → Calls Tryz.prog 40 #[.pointer (some ⟨sb false, a * 2, none⟩), .agg #[.int .i64 (b : Int), .int .u64 wt, .int .i64 via]] wx fun e w' => e = .returned (.tuple #[]) ∧ ∃ v', OvMem PX w' B pb ab sb n bs (updS R false a (v', setH (R false a).2.1 ((b : Int), wt, via), (R false a).2.2)) nodes ar ∧ Below B wx w') := fun wx ar hx => hx.set hk false han ((b : Int), wt, via)
  have HS2 : Hid (∀ wx ar v1, OvMem PX wx B pb ab sb n bs (updS R false a (v1, setH (R false a).2.1 ((b : Int), wt, via), (R false a).2.2)) nodes ar → Calls Tryz.prog 40 #[.pointer (some ⟨sb true, b * 2, none⟩), .agg #[.int .i64 (a : Int), .int .u64 wt, .int .i64 via]] wx fun e w' => e = .returned (.tuple #[]) ∧ ∃ v', OvMem PX w' B pb ab sb n bs (updS (updS R false a (v1, setH (R false a).2.1 ((b : Int), wt, via), (R false a).2.2)) true b (v', setH (R true b).2.1 ((a : Int), wt, via), (R true b).2.2)) nodes ar ∧ Below B wx w') := fun wx ar v1 hx => by
    have h1 := hx.set (hk.set false v1 (a := ((b : Int), wt, via)) (by simp) (by simp; omega)) true hbn ((a : Int), wt, via)
    rw [updS_far R false true a _ (by simp)] at h1
    exact h1
  have i1 : (a : Int) < (n : Int) := by omega
  have i2 : (0 : Int) ≤ (a : Int) := by omega
  have i3 : (b : Int) < (n : Int) := by omega
  have i4 : (0 : Int) ≤ (b : Int) := by omega
  have i5 : IntKind.i64.wrap (arcs + 1) = arcs + 1 := by rw [IntKind.wrap_i64] <;> omega
  have hBz := h.size
  clear h hc hw' hw hp hk han hbn ha hab
  go_enter Tryz.func19, Tryz.ntmps19
  go_wp2_with fail
  refine HC.out.mono ?_
  rintro e w1 ⟨rfl, hw1⟩
  subst hw1
  go_wp2_with fail
  refine HW.out.mono ?_
  rintro e w2 ⟨rfl, hb⟩
  have M2 := HM.out.keep hb
  have HM2 : Hid (type_of% M2) := M2
  have HB : Hid (Below B w1 w2) := hb.mono hBz
  obtain ⟨c0, c1, c2, c3, c4, cs⟩ := M2.cells
  have cf : w2.frozen? ⟨pb, 4, none⟩ = false := by simp [World.frozen?, M2.box]
  clear M2 hb
  go_wp2_with fail
  refine (HS1.out _ arcs HM2.out).mono ?_
  rintro e w4 ⟨rfl, v1, M4, b4⟩
  have HM4 : Hid (type_of% M4) := M4
  have H4 : Hid (Below B w1 w4) := (HB.out.trans b4)
  obtain ⟨x0, x1, x2, x3, x4, xs⟩ := M4.cells
  clear M4 b4
  go_wp2_with fail
  refine (HS2.out _ _ v1 HM4.out).mono ?_
  rintro e w5 ⟨rfl, v2, M5, b5⟩
  have HM5 : Hid (type_of% M5) := M5
  have H5 : Hid (Below B w1 w5) := H4.out.trans b5
  clear M5 b5
  go_wp2
  go_ret2
  exact ⟨rfl, v1, v2, HM5.out, H5.out⟩
end
end Go.Proofs.YtnclegldhafaeaaGreatDoor
