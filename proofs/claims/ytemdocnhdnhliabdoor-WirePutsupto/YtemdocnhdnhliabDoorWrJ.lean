/- viaductref18.Put and PutWords: bytes behind bytes, grown by append. -/
import Derived.Test.YtemdocnhdnhliabDoorWrI
namespace Go.Proofs.YtemdocnhdnhliabDoor
open Go.RowKit Go.Extern Cr

attribute [local go_sem] Oper.semAt_some

theorem take_more' {l : List Nat} {i x : Nat} (h : l[i]? = some x) : l.take (i + 1) = l.take i ++ [x] := by
  rw [List.take_add_one, h]; rfl
theorem pow8 (k : Nat) : (2 : Nat) ^ (8 * k) = 256 ^ k := by rw [Nat.pow_mul]
set_option maxRecDepth 100000 in
set_option maxHeartbeats 1000000 in
theorem vPut_calls (lo : Option Addr) (lc : Nat) (l : List Nat) (v n : Nat) (hv : v < 18446744073709551616) (w : World) (hl : HasB w (.slice lo l.length lc) l) (hm : l.length + 8 ≤ 140737488355328) (hc : lo = none → lc = 0) (hn : n ≤ 8) :
    Calls Tryd.prog 26 #[.slice lo l.length lc, .int .u64 (v : Int), .int .i64 (n : Int)] w fun e w' => ∃ mo mc, e = .returned (.slice mo (l.length + n) mc) ∧ w'.ownsRow w.heap.size 5 1 (.slice mo (l.length + n) mc) (l.length + n) (bv (l ++ leN v n)) ∧ Below w.heap.size w w' := by
  have HL : Hid (HasB w (.slice lo l.length lc) l ∧ (lo = none → lc = 0)) := ⟨hl, hc⟩
  have HV : Hid (v < 18446744073709551616) := hv
  clear hl hc hv
  go_enter Tryd.func26, Tryd.ntmps26
  go_wp2_with (at_builtin; refine wpList_append_B rfl _ _ rfl w.heap.size (.slice none 0 0) [] rfl (World.ownsRow_nil _ _ _ _) lo lc l rfl HL.out.1 HL.out.2 (by simp only [List.length_nil]; omega) (Nat.le_refl _) ?_; intro v5 w5 hown5 hgr5; have H5 : Hid (w5.ownsRow w.heap.size 5 1 v5 l.length (bv l) ∧ Below w.heap.size w w5) := (by refine ⟨?_, bbelow_grown (Below.refl _ _) (World.ownsRow_nil _ _ _ _) hgr5 (Nat.le_refl _)⟩; simpa using hown5); clear hown5 hgr5; obtain ⟨po, pc, hv5⟩ := bown_slice H5.out.1; subst hv5)
  go_loopw [7, 8] (fun ov nv wr => ∃ (k : Nat) (so : Option Addr) (sc : Nat), k ≤ n ∧ nv = .int .i64 k ∧ ov = .slice so (l.length + k) sc ∧ wr.ownsRow w.heap.size 5 1 (.slice so (l.length + k) sc) (l.length + k) (bv (l ++ leN v k)) ∧ Below w.heap.size w wr) (fun _ nv _ => n - (intOf nv).toNat)
  case atStart => exact ⟨0, po, pc, Nat.zero_le _, rfl, rfl, by rw [show l ++ leN v 0 = l from List.append_nil l]; exact H5.out.1, H5.out.2⟩
  case round =>
    obtain ⟨k, so, sc, hk, rfl, rfl, hO, hB⟩ := hrel
    have HK : Hid (wr.ownsRow w.heap.size 5 1 (.slice so (l.length + k) sc) (l.length + k) (bv (l ++ leN v k)) ∧ Below w.heap.size w wr) := ⟨hO, hB⟩
    clear hO hB
    by_cases hlt : k < n
    · have HN : Hid (leN v (k + 1) = leN v k ++ [v / 256 ^ k % 256]) := leN_snoc k v
      have HLen : Hid ((l ++ leN v k).length = l.length + k) := (by rw [List.length_append, leN_len] : (l ++ leN v k).length = l.length + k)
      have hq : (v : Int) / 2 ^ (8 * k) = ((v / 256 ^ k : Nat) : Int) := by
        rw [← pow8 k]
        simp
      have hwx : IntKind.i64.wrap (8 * (k : Int)) = 8 * (k : Int) := by rw [IntKind.wrap_i64] <;> omega
      have i3 : (0 : Int) ≤ 8 * (k : Int) := by omega
      have i4 : 8 * (k : Int) ≤ 64 := by omega
      have hcast : ((v / 256 ^ k : Nat) : Int) = (v : Int) / 256 ^ k := by simp
      rw [hcast] at hq
      have HB : Hid (HasB (wr.alloc (.cells #[.int .u8 ((v : Int) / 256 ^ k % 256)] 5)) (.slice (some ⟨wr.heap.size, 0, none⟩) [v / 256 ^ k % 256].length 1) [v / 256 ^ k % 256]) := by
        have hh := hasB_new1 wr (v / 256 ^ k % 256)
        rw [show ((v / 256 ^ k % 256 : Nat) : Int) = (v : Int) / 256 ^ k % 256 by rw [← hcast]; omega] at hh
        exact hh
      have i1 : (k : Int) < (n : Int) := by omega
      clear hcast
      go_wp2_with (at_builtin; refine wpList_append_B rfl _ _ rfl w.heap.size (.slice so (l.length + k) sc) (l ++ leN v k) rfl (by rw [HLen.out]; exact bown_alloc HK.out.1 _) (some ⟨wr.heap.size, 0, none⟩) 1 [v / 256 ^ k % 256] rfl HB.out (fun e => by cases e) (by rw [HLen.out]; show l.length + k + 1 ≤ _; omega) (by have := HK.out.2.size; simp; omega) ?_; intro v6 w6 hown6 hgr6; have H6 : Hid (w6.ownsRow w.heap.size 5 1 v6 (l.length + (k + 1)) (bv (l ++ leN v (k + 1))) ∧ Below w.heap.size w w6) := (by refine ⟨?_, bbelow_grown (HK.out.2.alloc HK.out.2.size _) (bown_alloc HK.out.1 _) hgr6 (by have := HK.out.2.size; simp; omega)⟩; rw [List.length_append, HLen.out] at hown6; rw [HN.out, ← List.append_assoc]; exact hown6); clear hown6 hgr6; obtain ⟨qo, qc, hv6⟩ := bown_slice H6.out.1; subst hv6)
      exact ⟨⟨k + 1, qo, qc, by omega, by rw [show (k : Int) + 1 = ((k + 1 : Nat) : Int) by omega], rfl, H6.out.1, H6.out.2⟩, by simp only [intOf]; omega⟩
    · obtain rfl : k = n := by omega
      go_wp2_with fail
      go_ret
      exact ⟨so, sc, rfl, HK.out.1, HK.out.2⟩

theorem leN_four (x : Nat) : leN x 4 = [x % 256, x / 256 % 256, x / 65536 % 256, x / 16777216 % 256] := by
  show [x % 256, x / 256 % 256, x / 256 / 256 % 256, x / 256 / 256 / 256 % 256] = _
  rw [Nat.div_div_eq_div_mul, Nat.div_div_eq_div_mul]
theorem hasB_word (w : World) {s : Nat} (hs : s < 4294967296) : HasB (w.alloc (.cells #[.int .u8 ((s : Int) % 256), .int .u8 ((s : Int) / 256 % 256), .int .u8 ((s : Int) / 65536 % 256), .int .u8 ((s : Int) / 16777216)] 5)) (.slice (some ⟨w.heap.size, 0, none⟩) (leN s 4).length 4) (leN s 4) := by
  rw [leN_four]
  have h := hasB_new' w [s % 256, s / 256 % 256, s / 65536 % 256, s / 16777216 % 256] 4 (0, 0)
  have e : (bv [s % 256, s / 256 % 256, s / 65536 % 256, s / 16777216 % 256]).toArray = #[.int .u8 ((s : Int) % 256), .int .u8 ((s : Int) / 256 % 256), .int .u8 ((s : Int) / 65536 % 256), .int .u8 ((s : Int) / 16777216)] := by
    have e0 : ((s % 256 : Nat) : Int) = (s : Int) % 256 := by omega
    have e1 : ((s / 256 % 256 : Nat) : Int) = (s : Int) / 256 % 256 := by omega
    have e2 : ((s / 65536 % 256 : Nat) : Int) = (s : Int) / 65536 % 256 := by omega
    have e3 : ((s / 16777216 % 256 : Nat) : Int) = (s : Int) / 16777216 := by omega
    show #[Value.int .u8 ((s % 256 : Nat) : Int), .int .u8 ((s / 256 % 256 : Nat) : Int), .int .u8 ((s / 65536 % 256 : Nat) : Int), .int .u8 ((s / 16777216 % 256 : Nat) : Int)] = _
    rw [e0, e1, e2, e3]
  rw [e] at h
  exact h

set_option maxRecDepth 100000 in
set_option maxHeartbeats 1000000 in
theorem vPutWords_calls (lo ro : Option Addr) (lc rc : Nat) (l ws : List Nat) (w : World) (hl : HasB w (.slice lo l.length lc) l) (hr : HasW w (.slice ro ws.length rc) ws) (hm : l.length + 4 * ws.length ≤ 140737488355328) (hc : lo = none → lc = 0) (hw : ∀ x ∈ ws, x < 4294967296) :
    Calls Tryd.prog 18 #[.slice lo l.length lc, .slice ro ws.length rc] w fun e w' => ∃ mo mc, e = .returned (.slice mo (l.length + 4 * ws.length) mc) ∧ w'.ownsRow w.heap.size 5 1 (.slice mo (l.length + 4 * ws.length) mc) (l.length + 4 * ws.length) (bv (l ++ bytesOf ws)) ∧ Below w.heap.size w w' := by
  have HL : Hid ((HasB w (.slice lo l.length lc) l ∧ (lo = none → lc = 0)) ∧ HasW w (.slice ro ws.length rc) ws ∧ ∀ x ∈ ws, x < 4294967296) := ⟨⟨hl, hc⟩, hr, hw⟩
  clear hl hc hr hw
  go_enter Tryd.func18, Tryd.ntmps18
  go_wp2_with (at_builtin; refine wpList_append_B rfl _ _ rfl w.heap.size (.slice none 0 0) [] rfl (World.ownsRow_nil _ _ _ _) lo lc l rfl HL.out.1.1 HL.out.1.2 (by simp only [List.length_nil]; omega) (Nat.le_refl _) ?_; intro v5 w5 hown5 hgr5; have H5 : Hid (w5.ownsRow w.heap.size 5 1 v5 l.length (bv l) ∧ Below w.heap.size w w5) := (by refine ⟨?_, bbelow_grown (Below.refl _ _) (World.ownsRow_nil _ _ _ _) hgr5 (Nat.le_refl _)⟩; simpa using hown5); clear hown5 hgr5; obtain ⟨po, pc, hv5⟩ := bown_slice H5.out.1; subst hv5)
  go_loopw [5, 13] (fun ov nv wr => ∃ (k : Nat) (so : Option Addr) (sc : Nat), k ≤ ws.length ∧ nv = .int .i64 k ∧ ov = .slice so (l.length + 4 * k) sc ∧ wr.ownsRow w.heap.size 5 1 (.slice so (l.length + 4 * k) sc) (l.length + 4 * k) (bv (l ++ bytesOf (ws.take k))) ∧ Below w.heap.size w wr) (fun _ nv _ => ws.length - (intOf nv).toNat)
  case atStart => exact ⟨0, po, pc, Nat.zero_le _, rfl, rfl, by rw [show l ++ bytesOf (ws.take 0) = l from List.append_nil l]; exact H5.out.1, H5.out.2⟩
  case round =>
    obtain ⟨k, so, sc, hk, rfl, rfl, hO, hB⟩ := hrel
    have HK : Hid (wr.ownsRow w.heap.size 5 1 (.slice so (l.length + 4 * k) sc) (l.length + 4 * k) (bv (l ++ bytesOf (ws.take k))) ∧ Below w.heap.size w wr) := ⟨hO, hB⟩
    by_cases hlt : k < ws.length
    · obtain ⟨x, hx⟩ : ∃ a, ws[k]? = some a := ⟨ws[k], List.getElem?_eq_getElem hlt⟩
      obtain ⟨b, off, hlo, hbl, q0⟩ := HL.out.2.1.at hx
      subst hlo
      have c0 := (hB.cell (p := ⟨b, off + k, none⟩) hbl).trans q0
      have hx4 : x < 4294967296 := HL.out.2.2 x (List.mem_of_getElem? hx)
      have HX4 : Hid (x < 4294967296) := hx4
      have hxI : (x : Int) ≤ 4294967295 := by omega
      have HLen : Hid ((l ++ bytesOf (ws.take k)).length = l.length + 4 * k) := (by rw [List.length_append, bytesOf_len, List.length_take, Nat.min_eq_left (by omega)] : (l ++ bytesOf (ws.take k)).length = l.length + 4 * k)
      have HT : Hid (l ++ bytesOf (ws.take (k + 1)) = (l ++ bytesOf (ws.take k)) ++ leN x 4) := (by rw [take_more' hx, bytesOf_snoc, List.append_assoc] : l ++ bytesOf (ws.take (k + 1)) = (l ++ bytesOf (ws.take k)) ++ leN x 4)
      have i1 : (k : Int) < (ws.length : Int) := by omega
      have i2 : (0 : Int) ≤ (k : Int) := by omega
      clear q0 hx hO hB hx4
      go_wp2_with (at_builtin; refine wpList_append_B rfl _ _ rfl w.heap.size (.slice so (l.length + 4 * k) sc) (l ++ bytesOf (ws.take k)) rfl (by rw [HLen.out]; exact bown_alloc HK.out.1 _) (some ⟨wr.heap.size, 0, none⟩) 4 (leN x 4) rfl (hasB_word wr HX4.out) (fun e => by cases e) (by rw [HLen.out]; show l.length + 4 * k + 4 ≤ _; omega) (by have := HK.out.2.size; simp; omega) ?_; intro v6 w6 hown6 hgr6; have H6 : Hid (w6.ownsRow w.heap.size 5 1 v6 (l.length + 4 * (k + 1)) (bv (l ++ bytesOf (ws.take (k + 1)))) ∧ Below w.heap.size w w6) := (by refine ⟨?_, bbelow_grown (HK.out.2.alloc HK.out.2.size _) (bown_alloc HK.out.1 _) hgr6 (by have := HK.out.2.size; simp; omega)⟩; rw [List.length_append, HLen.out] at hown6; rw [HT.out]; exact hown6); clear hown6 hgr6; obtain ⟨qo, qc, hv6⟩ := bown_slice H6.out.1; subst hv6)
      exact ⟨⟨k + 1, qo, qc, by omega, by rw [show (k : Int) + 1 = ((k + 1 : Nat) : Int) by omega], rfl, H6.out.1, H6.out.2⟩, by simp only [intOf]; omega⟩
    · obtain rfl : k = ws.length := by omega
      have HK2 : Hid (wr.ownsRow w.heap.size 5 1 (.slice so (l.length + 4 * ws.length) sc) (l.length + 4 * ws.length) (bv (l ++ bytesOf ws)) ∧ Below w.heap.size w wr) := ⟨by rw [List.take_length] at hO; exact hO, hB⟩
      clear hO hB HK
      go_wp2_with fail
      go_ret
      exact ⟨so, sc, rfl, HK2.out.1, HK2.out.2⟩
end Go.Proofs.YtemdocnhdnhliabDoor
