/- slices.Insert of one half into a row of one's own. -/
import Derived.Test.YtnclegldhafaeaaGreatDoorOvC
import Derived.Lib.Overlaps
namespace Go.Proofs.YtnclegldhafaeaaGreatDoor
open Go.RowKit Go.Extern Go.Sort

attribute [local go_sem] Oper.semAt_some

theorem Tryz.elemH : Tryz.prog.underlying 49 = some (.slice (Tryz.prog.elem 49)) := by kernel_rfl
theorem Tryz.sizeH (w : World) : (sizeOf (Tryz.prog.elem 49)).run Tryz.prog w = .ok 3 w := by kernel_rfl
theorem hsl_to (b n c i : Nat) (hi : i ≤ c) (w : World) : (Instr.slice 49 (.slice (some ⟨b, 0, none⟩) n c) none (some (.int .i64 (i : Int))) none).run Tryz.prog w = .ok (.slice (some ⟨b, 0, none⟩) i c) w := by
  rw [run_slice_h (ht := Tryz.elemH) (h0 := by omega) (h2 := by omega), Tryz.sizeH]
  have e2 : (i : Int).toNat = i := by omega
  simp only [Result.andThen_ok, sliced, e2]
  simp [Addr.add]
theorem hsl_from (b n c i : Nat) (h : n ≤ c) (hi : i < n) (w : World) : (Instr.slice 49 (.slice (some ⟨b, 0, none⟩) n c) (some (.int .i64 (i : Int))) none none).run Tryz.prog w = .ok (.slice (some ⟨b, i * 3, none⟩) (n - i) (c - i)) w := by
  have e2 : (i : Int).toNat = i := by omega
  rw [run_slice_l (ht := Tryz.elemH) (h0 := by omega) (h1 := by omega), Tryz.sizeH]
  simp only [Result.andThen_ok, sliced, e2]
  rw [if_neg (by omega)]
  show Result.ok (Value.slice (some ((⟨b, 0, none⟩ : Addr).add (i * 3))) _ _) w = _
  rw [Addr.add_lit, Nat.zero_add]
theorem hsl_end (ao : Option Addr) (n c : Nat) : ∃ bo bc, ∀ w, (Instr.slice 49 (.slice ao n c) (some (.int .i64 (n : Int))) none none).run Tryz.prog w = .ok (.slice bo 0 bc) w := by
  have e2 : (n : Int).toNat = n := by omega
  refine ⟨if c = n then ao else ao.map (·.add (n * 3)), c - n, fun w => ?_⟩
  rw [run_slice_l (ht := Tryz.elemH) (h0 := by omega) (h1 := by omega), Tryz.sizeH]
  simp only [Result.andThen_ok, sliced, e2, Nat.sub_self]
/-- a list with one more at a place. -/
def insH (l : List H3) (i : Nat) (h : H3) : List H3 := l.take i ++ h :: l.drop i
theorem insH_len {l : List H3} {i : Nat} {h : H3} (hi : i ≤ l.length) : (insH l i h).length = l.length + 1 := by
  unfold insH
  simp
  omega
theorem flatH_take (l : List H3) (i : Nat) : (flatH l).take (i * 3) = flatH (l.take i) := by
  rcases Nat.lt_or_ge i l.length with h | h
  · have e : l = l.take i ++ l.drop i := (List.take_append_drop i l).symm
    have hl : (flatH (l.take i)).length = i * 3 := by rw [flatH_len, List.length_take, Nat.min_eq_left (by omega)]
    conv => lhs; rw [e, flatH_append]
    rw [List.take_append_of_le_length (by omega), List.take_of_length_le (by omega)]
  · rw [List.take_of_length_le (by rw [flatH_len]; omega), List.take_of_length_le h]
theorem flatH_drop (l : List H3) (i : Nat) : (flatH l).drop (i * 3) = flatH (l.drop i) := by
  rcases Nat.lt_or_ge i l.length with h | h
  · have e : l = l.take i ++ l.drop i := (List.take_append_drop i l).symm
    have hl : (flatH (l.take i)).length = i * 3 := by rw [flatH_len, List.length_take, Nat.min_eq_left (by omega)]
    conv => lhs; rw [e, flatH_append]
    rw [List.drop_append_of_le_length (by omega), List.drop_of_length_le (by omega)]
    simp
  · rw [List.drop_of_length_le (by rw [flatH_len]; omega), List.drop_of_length_le h]
    rfl

set_option maxRecDepth 100000 in
set_option maxHeartbeats 4000000 in
theorem insert_end (B : Nat) (v : Value) (l : List H3) (h : H3) (vb : Nat) (w : World) (ho : w.ownsRow B 71 3 v l.length (flatH l)) (hB : B ≤ w.heap.size) (hv : HasHs w (.slice (some ⟨vb, 0, none⟩) 1 1) [h]) (hl : l.length ≤ 262144) :
    Calls Tryz.prog 61 #[v, .int .i64 (l.length : Int), .slice (some ⟨vb, 0, none⟩) 1 1] w fun e w' => ∃ v', e = .returned v' ∧ w'.ownsRow B 71 3 v' (l.length + 1) (flatH (insH l l.length h)) ∧ w.grownBy w' v.ownBlock := by
  have e1 : insH l l.length h = l ++ [h] := by unfold insH; simp
  obtain ⟨ao, c, rfl⟩ := rowH_slice ho
  obtain ⟨bo, bc, hend⟩ := hsl_end ao l.length c
  have HO : Hid (w.ownsRow B 71 3 (.slice ao l.length c) l.length (flatH l) ∧ B ≤ w.heap.size ∧ HasHs w (.slice (some ⟨vb, 0, none⟩) 1 1) [h]) := ⟨ho, hB, hv⟩
  rw [e1]
  clear ho hv hB e1
  go_enter Tryz.func61, Tryz.ntmps61
  go_wp2_with (at_builtin; refine wpList_append_hs rfl _ _ rfl B (.slice ao l.length c) l rfl HO.out.1 (some ⟨vb, 0, none⟩) 1 [h] rfl HO.out.2.2 (fun e => by cases e) (by simp only [List.length_cons, List.length_nil]; omega) HO.out.2.1 ?_; intro v' w' hown hgr; have H1 : Hid (w'.ownsRow B 71 3 v' (l ++ [h]).length (flatH (l ++ [h])) ∧ w.grownBy w' (Value.slice ao l.length c).ownBlock) := ⟨hown, hgr⟩; clear hown hgr)
  go_ret
  exact ⟨v', rfl, by have := H1.out.1; rw [List.length_append] at this; exact this, H1.out.2⟩
end Go.Proofs.YtnclegldhafaeaaGreatDoor
