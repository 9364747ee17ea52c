/- wire.PutWords; the law WireThere, walked. -/
import Derived.Test.YtemdocnhdnhliabDoorWrH
import Derived.Test.YtemdocnhdnhliabDoorWrG
namespace Go.Proofs.YtemdocnhdnhliabDoor
open Go.RowKit Go.Extern Cr

attribute [local go_sem] Oper.semAt_some

/-- words as bytes. -/
def bytesOf (ws : List Nat) : List Nat := ws.flatMap fun v => leN v 4
theorem bytesOf_snoc (ws : List Nat) (x : Nat) : bytesOf (ws ++ [x]) = bytesOf ws ++ leN x 4 := by simp [bytesOf]
theorem bytesOf_len : ∀ ws : List Nat, (bytesOf ws).length = 4 * ws.length
  | [] => rfl
  | v :: r => by
    show (leN v 4 ++ bytesOf r).length = 4 * (r.length + 1)
    rw [List.length_append, leN_len, bytesOf_len r]
    omega
theorem bytesOf_bts : ∀ ws : List Nat, Bts (bytesOf ws)
  | [] => fun v hv => by cases hv
  | v :: r => (leN_bts 4 v).app (bytesOf_bts r)
theorem bytesOf_piece : ∀ (ws : List Nat) (i x : Nat), ws[i]? = some x → piece (bytesOf ws) (4 * i) 4 = leN x 4
  | [], i, x, h => by simp at h
  | v :: r, 0, x, h => by
    simp at h
    subst h
    show ((leN v 4 ++ bytesOf r).drop 0).take 4 = leN v 4
    rw [List.drop_zero, List.take_append_of_le_length (by rw [leN_len]; exact Nat.le_refl _), List.take_of_length_le (by rw [leN_len]; exact Nat.le_refl _)]
  | v :: r, i + 1, x, h => by
    have ih := bytesOf_piece r i x (by simpa using h)
    show ((leN v 4 ++ bytesOf r).drop (4 * (i + 1))).take 4 = leN x 4
    rw [show 4 * (i + 1) = (leN v 4).length + 4 * i by rw [leN_len]; omega, List.drop_append, List.drop_eq_nil_of_le (by omega), List.nil_append, Nat.add_sub_cancel_left]
    exact ih
theorem piece_behind (l B : List Nat) (i n : Nat) : piece (l ++ B) (l.length + i) n = piece B i n := by
  unfold piece
  rw [List.drop_append, List.drop_eq_nil_of_le (by omega), List.nil_append, Nat.add_sub_cancel_left]
theorem words_back {l ws : List Nat} (hw : ∀ x ∈ ws, x < 4294967296) : wordsOf (l ++ bytesOf ws) l.length ws.length = ws := by
  apply List.ext_getElem?
  intro i
  by_cases h : i < ws.length
  · rw [wordsOf_at h, piece_behind, bytesOf_piece ws i ws[i] (List.getElem?_eq_getElem h), leN_num, List.getElem?_eq_getElem h]
    congr 1
    have := hw ws[i] (List.getElem_mem h)
    show ws[i] % 4294967296 = ws[i]
    omega
  · rw [List.getElem?_eq_none (by rw [wordsOf_len]; omega), List.getElem?_eq_none (by omega)]

set_option maxRecDepth 100000 in
set_option maxHeartbeats 1000000 in
theorem putWords_calls (lo ro : Option Addr) (lc rc : Nat) (l ws : List Nat) (w : World) (hl : HasB w (.slice lo l.length lc) l) (hr : HasW w (.slice ro ws.length rc) ws) (hm : l.length ≤ 140737488351232) (hwm : ws.length * 4 ≤ 140737488351232) (hc : lo = none → lc = 0) (hw : ∀ x ∈ ws, x < 4294967296) :
    Calls Tryd.prog 16 #[.slice lo l.length lc, .slice ro ws.length rc] w fun e w' => ∃ g, e = .returned (.slice (some ⟨g, 0, none⟩) (l.length + 4 * ws.length) (l.length + 4 * ws.length)) ∧ Room w w' g (l.length + 4 * ws.length) (l ++ bytesOf ws) := by
  have HR := roomier_calls lo lc l (4 * ws.length) w hl (by omega) hc
  have HL : Hid (HasW w (.slice ro ws.length rc) ws ∧ ∀ x ∈ ws, x < 4294967296) := ⟨hr, hw⟩
  have hcast : ((4 * ws.length : Nat) : Int) = 4 * (ws.length : Int) := by omega
  rw [hcast] at HR
  clear hl hr hc hw hcast
  go_enter Tryd.func16, Tryd.ntmps16
  go_wp2_with (go_at_call 24; refine HR.mono ?_; rintro e w1 ⟨g, rfl, hr1⟩; have H1 : Hid (Room w w1 g (l.length + 4 * ws.length) l) := hr1; clear hr1)
  go_loopw [5, 15] (fun ov nv wr => ∃ k : Nat, k ≤ ws.length ∧ nv = .int .i64 k ∧ ov = .slice (some ⟨g, 0, none⟩) (l.length + 4 * k) (l.length + 4 * ws.length) ∧ Room w wr g (l.length + 4 * ws.length) (l ++ bytesOf (ws.take k))) (fun _ nv _ => ws.length - (intOf nv).toNat)
  case atStart => exact ⟨0, Nat.zero_le _, rfl, rfl, by show Room w w1 g _ (l ++ []); rw [List.append_nil]; exact H1.out⟩
  case round =>
    obtain ⟨k, hk, rfl, rfl, hR⟩ := hrel
    have HK : Hid (Room w wr g (l.length + 4 * ws.length) (l ++ bytesOf (ws.take k))) := hR
    by_cases hlt : k < ws.length
    · obtain ⟨x, hx⟩ : ∃ a, ws[k]? = some a := ⟨ws[k], List.getElem?_eq_getElem hlt⟩
      obtain ⟨b, off, hlo, hbl, q0⟩ := HL.out.1.at hx
      subst hlo
      have c0 := (hR.below.cell (p := ⟨b, off + k, none⟩) hbl).trans q0
      have hx4 : x < 4294967296 := HL.out.2 x (List.mem_of_getElem? hx)
      have hlen : (l ++ bytesOf (ws.take k)).length = l.length + 4 * k := by rw [List.length_append, bytesOf_len, List.length_take, Nat.min_eq_left (by omega)]
      have HT : Hid (l ++ bytesOf (ws.take (k + 1)) = (l ++ bytesOf (ws.take k)) ++ leN x 4) := (by rw [take_more hx, bytesOf_snoc, List.append_assoc] : l ++ bytesOf (ws.take (k + 1)) = (l ++ bytesOf (ws.take k)) ++ leN x 4)
      have hBh := behind_calls w g (l.length + 4 * ws.length) (l ++ bytesOf (ws.take k)) x 4 (by omega) wr hR (by rw [hlen]; omega) (by omega)
      rw [hlen, ← HT.out] at hBh
      have i1 : (k : Int) < (ws.length : Int) := by omega
      have i2 : (0 : Int) ≤ (k : Int) := by omega
      have hxI : (x : Int) ≤ 4294967295 := by omega
      clear q0 hx hR hlen hx4
      go_wp2_with (go_at_call 23; refine hBh.mono ?_; rintro e w2 ⟨rfl, hr2⟩; have H2 : Hid (Room w w2 g (l.length + 4 * ws.length) (l ++ bytesOf (ws.take (k + 1)))) := hr2; clear hr2)
      exact ⟨⟨k + 1, by omega, by rw [show (k : Int) + 1 = ((k + 1 : Nat) : Int) by omega], by congr 1, H2.out⟩, by simp only [intOf]; omega⟩
    · obtain rfl : k = ws.length := by omega
      have HK2 : Hid (Room w wr g (l.length + 4 * ws.length) (l ++ bytesOf ws)) := by rw [List.take_length] at hR; exact hR
      clear hR HK
      go_wp2_with fail
      go_ret
      exact ⟨g, rfl, HK2.out⟩

theorem slice_upB (b off n lc i : Nat) (h : n ≤ lc) (hi : i ≤ n) (w : World) : (Instr.slice 22 (.slice (some ⟨b, off, none⟩) n lc) none (some (.int .i64 (i : Int))) none).run Tryd.prog w = .ok (.slice (some ⟨b, off, none⟩) i lc) w := by
  rw [run_slice_h (ht := Tryd.elemO) (h0 := by omega) (h2 := by omega), Tryd.sizeO]
  have e2 : (i : Int).toNat = i := by omega
  simp only [Result.andThen_ok, sliced, e2]
  simp [Addr.add]
theorem hasB_tk {w : World} {lo : Option Addr} {lc n : Nat} {l : List Nat} (h : HasB w (.slice lo n lc) l) (k : Nat) : HasB w (.slice lo (l.take k).length lc) (l.take k) := by
  refine ⟨lo, lc, rfl, fun j a hj => ?_⟩
  have hj' : l[j]? = some a := by
    rw [List.getElem?_take] at hj
    split at hj
    · exact hj
    · cases hj
  exact h.at hj'

end Go.Proofs.YtemdocnhdnhliabDoor
