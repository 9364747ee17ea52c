/- The search's distances, walked. -/
import Derived.Test.YtbkclhaonbjobaaGreatWtY
import Derived.Test.YtbkclhaonbjobaaGreatWtE
import Derived.Test.YtbkclhaonbjobaaGreatInts
namespace Go.Proofs.YtbkclhaonbjobaaGreat.Wt
open Go Go.RowKit Go.Extern Go.Deep

attribute [local go_sem] Oper.semAt_some

/-- what is answered for a goal. -/
def ansG (L : Int → Option (Int × Int)) (g : Int) : Int := match L g with | some p => p.1 | none => 18446744073709551615
/-- the answers so far. -/
def ansL (L : Int → Option (Int × Int)) (gs : List Int) (i : Nat) : List Int := (gs.take i).map (ansG L) ++ List.replicate (gs.length - i) 0
theorem ansL_zero (L : Int → Option (Int × Int)) (gs : List Int) : ansL L gs 0 = List.replicate gs.length 0 := by simp [ansL]
theorem ansL_all (L : Int → Option (Int × Int)) (gs : List Int) : ansL L gs gs.length = gs.map (ansG L) := by simp [ansL]
theorem ansL_set {L : Int → Option (Int × Int)} {gs : List Int} {i : Nat} {g : Int} (h : gs[i]? = some g) : (ansL L gs i).set i (ansG L g) = ansL L gs (i + 1) := by
  have hl := (List.getElem?_eq_some_iff.1 h).1
  have h1 : ((gs.take i).map (ansG L)).length = i := by rw [List.length_map, List.length_take]; omega
  unfold ansL
  rw [List.set_append_right _ _ (by omega), h1, Nat.sub_self, List.take_add_one, h]
  rw [show gs.length - i = (gs.length - (i + 1)) + 1 by omega, List.replicate_succ, List.set_cons_zero]
  simp
theorem ansL_len (L : Int → Option (Int × Int)) (gs : List Int) {i : Nat} (h : i ≤ gs.length) : (ansL L gs i).length = gs.length := by
  unfold ansL
  rw [List.length_append, List.length_map, List.length_take, List.length_replicate]
  omega
section
variable {w : World} {sb mb nm : Nat} {c0 c1 c2 c3 sv : Value} {L : Int → Option (Int × Int)} {Q : List Th}
set_option maxRecDepth 100000 in
set_option maxHeartbeats 4000000 in
theorem wdist_calls (h : WS w sb mb nm c0 c1 c2 c3 sv L Q) (go : Option Addr) (gc : Nat) (gs : List Int) (hg : HasInts w (.slice go gs.length gc) gs) (hgw : ∀ g ∈ gs, (Lit.int .i64 g).wf = true) (hl : gs.length ≤ 1000000) :
    Calls Tryz.prog 91 #[.pointer (some ⟨sb, 0, none⟩), .slice go gs.length gc] w fun e w' => ∃ db, e = .returned (.slice (some ⟨db, 0, none⟩) gs.length gs.length) ∧ w.heap.size ≤ db ∧ U64s w' db (gs.map (ansG L)) ∧ Below w.heap.size w w' := by
  have hmk := fun wx => run_make_row' (P := Tryz.prog) 53 47 (.int .u64 0) 8 Tryz.underlying53 infoU rfl .i64 .i64 gs.length (by omega) (by omega) wx
  obtain ⟨db, hdb⟩ : ∃ db, w.heap.size = db := ⟨_, rfl⟩
  obtain ⟨W1, hW1⟩ : ∃ W1, w.alloc (.cells (madeCells #[.int .u64 0] gs.length) 47) = W1 := ⟨_, rfl⟩
  have HW1 : Hid (w.alloc (.cells (madeCells #[.int .u64 0] gs.length) 47) = W1) := hW1
  have hB1 : Below w.heap.size w W1 := by rw [← hW1]; exact (Below.refl _ w).alloc (Nat.le_refl _) _
  have H1 : Hid (U64s W1 db (ansL L gs 0) ∧ Below w.heap.size w W1) := ⟨by rw [ansL_zero, ← hW1, ← hdb]; exact made_u64s w gs.length, hB1⟩
  have HD : Hid (w.heap.size = db) := hdb
  have HH : Hid (WS w sb mb nm c0 c1 c2 c3 sv L Q ∧ HasInts w (.slice go gs.length gc) gs ∧ ∀ g ∈ gs, (Lit.int .i64 g).wf = true) := ⟨h, hg, hgw⟩
  clear h hg hgw hW1 hB1
  go_enter Tryz.func91, Tryz.ntmps91
  go_upto_region 2 with fail
  rw [HW1.out]
  try rw [HD.out]
  clear hmk hdb
  go_wp2_with fail
  go_loopw [15] (fun iv wr => ∃ i : Nat, iv = .int .i64 i ∧ i ≤ gs.length ∧ U64s wr db (ansL L gs i) ∧ Below w.heap.size w wr) (fun iv _ => gs.length - (intOf iv).toNat)
  case atStart => exact ⟨0, rfl, Nat.zero_le _, H1.out.1, H1.out.2⟩
  case round =>
    obtain ⟨i, rfl, hi, hu, hb⟩ := hrel
    by_cases hlt : i < gs.length
    · obtain ⟨g, hgi⟩ : ∃ g, gs[i]? = some g := ⟨gs[i], List.getElem?_eq_getElem hlt⟩
      have hws := HH.out.1.up hb
      obtain ⟨b, off, hgo, bl, p0⟩ := (HH.out.2.1.keep hb).at hgi
      subst hgo
      have hal := ansL_len L gs hi
      obtain ⟨x0, hx0⟩ : ∃ x, (ansL L gs i)[i]? = some x := ⟨_, List.getElem?_eq_getElem (by omega)⟩
      obtain ⟨u0, u1, u2⟩ := hu.at hx0
      have hset := hu.set i 18446744073709551615
      have hb2 : Below w.heap.size w (wr.setCell ⟨db, i, none⟩ (.int .u64 18446744073709551615)) := hb.setCell (p := ⟨db, i, none⟩) (by show w.heap.size ≤ db; rw [HD.out]; exact Nat.le_refl _) _
      obtain ⟨W2, hW2⟩ : ∃ W2, wr.setCell ⟨db, i, none⟩ (.int .u64 18446744073709551615) = W2 := ⟨_, rfl⟩
      have HW2 : Hid (wr.setCell ⟨db, i, none⟩ (.int .u64 18446744073709551615) = W2) := hW2
      rw [hW2] at hset hb2
      have hws2 := HH.out.1.up hb2
      obtain ⟨⟨kd, kg⟩, hkd⟩ : ∃ p, (L g).getD (0, 0) = p := ⟨_, rfl⟩
      obtain ⟨hs, hhs⟩ : ∃ s, (L g).isSome = s := ⟨_, rfl⟩
      have hLk : (Instr.lookup 173 (.map (some mb)) (.int .i64 g) true).run Tryz.prog W2 = .ok (.tuple #[.agg #[.int .u64 kd, .int .i64 kg], .bool hs]) W2 := by
        have h1 := hws2.m.lookOk (HH.out.2.2 g (List.mem_of_getElem? hgi))
        rw [hkd, hhs] at h1
        exact h1
      have HA : Hid (gs[i]? = some g ∧ (L g).getD (0, 0) = (kd, kg) ∧ (L g).isSome = hs ∧ U64s W2 db ((ansL L gs i).set i 18446744073709551615) ∧ Below w.heap.size w W2) := ⟨hgi, hkd, hhs, hset, hb2⟩
      obtain ⟨_, _, _, _, m4, _⟩ := hws2.cells
      have i1 : (i : Int) < (gs.length : Int) := by omega
      have i2 : (0 : Int) ≤ (i : Int) := by omega
      have ib : i < 1000000 := by omega
      clear hgi hws hal hx0 hu hset hb hb2 hW2 hws2 hkd hhs
      go_upto_region 6 with fail
      rw [HW2.out]
      clear u0 u1 u2 p0
      cases hs with
      | false =>
        have HF : Hid (U64s W2 db (ansL L gs (i + 1))) := by
          have h1 := HA.out.2.2.2.1
          have h2 : ansG L g = 18446744073709551615 := by
            unfold ansG
            cases hL : L g with
            | none => rfl
            | some p => have := HA.out.2.2.1; rw [hL] at this; cases this
          rw [← ansL_set HA.out.1, h2]
          exact h1
        go_wp2
        go_roundw
        case rel => exact ⟨i + 1, by go_num, by omega, (((Below.refl _ W2).alloc (Nat.le_refl _) _).block _ (lt_of_get HF.out)).trans HF.out, HA.out.2.2.2.2.trans (((Below.refl _ W2).alloc (Nat.le_refl _) _).mono HA.out.2.2.2.2.size)⟩
        case measure => simp [intOf]; omega
      | true =>
        obtain ⟨W3, hW3⟩ : ∃ W3, W2.alloc (.cells #[.int .u64 kd, .int .i64 kg] 180) = W3 := ⟨_, rfl⟩
        have HW3 : Hid (W2.alloc (.cells #[.int .u64 kd, .int .i64 kg] 180) = W3) := hW3
        have hB3 : Below W2.heap.size W2 W3 := by rw [← hW3]; exact (Below.refl _ _).alloc (Nat.le_refl _) _
        have hbx : W3.heap[W2.heap.size]? = some (.cells #[.int .u64 kd, .int .i64 kg] 180) := by rw [← hW3]; exact heap_new _ _
        have hu3 : U64s W3 db ((ansL L gs i).set i 18446744073709551615) := (hB3.block _ (lt_of_get HA.out.2.2.2.1)).trans HA.out.2.2.2.1
        have q0 : W3.cell? ⟨W2.heap.size, 0, none⟩ = some (.int .u64 kd) := cell_ofW hbx rfl
        obtain ⟨u0, u1, u2⟩ := hu3.at (k := i) (x := 18446744073709551615) (by rw [List.getElem?_set]; rw [if_pos rfl, if_pos (by rw [ansL_len L gs hi]; exact hlt)])
        have hset := hu3.set i kd
        have HF : Hid (U64s (W3.setCell ⟨db, i, none⟩ (.int .u64 kd)) db (ansL L gs (i + 1)) ∧ Below w.heap.size w (W3.setCell ⟨db, i, none⟩ (.int .u64 kd))) := ⟨by
          have h2 : ansG L g = kd := by
            unfold ansG
            cases hL : L g with
            | none => have := HA.out.2.2.1; rw [hL] at this; cases this
            | some p => have := HA.out.2.1; rw [hL] at this; simp at this; rw [this]
          rw [List.set_set] at hset
          rw [← ansL_set HA.out.1, h2]
          exact hset, (HA.out.2.2.2.2.trans (hB3.mono HA.out.2.2.2.2.size)).setCell (p := ⟨db, i, none⟩) (by show w.heap.size ≤ db; rw [HD.out]; exact Nat.le_refl _) _⟩
        clear hW3 hB3 hbx hu3 hset
        go_upto_region 8 with fail
        rw [HW3.out]
        clear hLk m4
        go_wp2
        go_roundw
        case rel => exact ⟨i + 1, by go_num, by omega, HF.out.1, HF.out.2⟩
        case measure => simp [intOf]; omega
    · obtain rfl : i = gs.length := by omega
      rw [ansL_all] at hu
      have HZ : Hid (U64s wr db (gs.map (ansG L)) ∧ Below w.heap.size w wr) := ⟨hu, hb⟩
      clear hu hb
      go_wp2
      go_ret
      exact ⟨db, rfl, by rw [HD.out]; exact Nat.le_refl _, HZ.out.1, HZ.out.2⟩
end
end Go.Proofs.YtbkclhaonbjobaaGreat.Wt
