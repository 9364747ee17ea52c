/- wire.PutWords; the law WireThere, walked. -/
import Derived.Test.YtemdocnhdnhliabWrH
import Derived.Test.YtemdocnhdnhliabWrG
namespace Go.Proofs.Ytemdocnhdnhliab
open Go.RowKit Go.Extern Cr

attribute [local go_sem] Oper.semAt_some

/-- words as bytes. -/
def bytesOf (ws : List Nat) : List Nat := ws.flatMap fun v => leN v 4
theorem bytesOf_snoc (ws : List Nat) (x : Nat) : bytesOf (ws ++ [x]) = bytesOf ws ++ leN x 4 := by simp [bytesOf]
theorem bytesOf_len : ∀ ws : List Nat, (bytesOf ws).length = 4 * ws.length
  | [] => rfl
  | v :: r => by
    show (leN v 4 ++ bytesOf r).length = 4 * (r.length + 1)
    rw [List.length_append, leN_len, bytesOf_len r]
    omega
theorem bytesOf_bts : ∀ ws : List Nat, Bts (bytesOf ws)
  | [] => fun v hv => by cases hv
  | v :: r => (leN_bts 4 v).app (bytesOf_bts r)
theorem bytesOf_piece : ∀ (ws : List Nat) (i x : Nat), ws[i]? = some x → piece (bytesOf ws) (4 * i) 4 = leN x 4
  | [], i, x, h => by simp at h
  | v :: r, 0, x, h => by
    simp at h
    subst h
    show ((leN v 4 ++ bytesOf r).drop 0).take 4 = leN v 4
    rw [List.drop_zero, List.take_append_of_le_length (by rw [leN_len]; exact Nat.le_refl _), List.take_of_length_le (by rw [leN_len]; exact Nat.le_refl _)]
  | v :: r, i + 1, x, h => by
    have ih := bytesOf_piece r i x (by simpa using h)
    show ((leN v 4 ++ bytesOf r).drop (4 * (i + 1))).take 4 = leN x 4
    rw [show 4 * (i + 1) = (leN v 4).length + 4 * i by rw [leN_len]; omega, List.drop_append, List.drop_eq_nil_of_le (by omega), List.nil_append, Nat.add_sub_cancel_left]
    exact ih
theorem piece_behind (l B : List Nat) (i n : Nat) : piece (l ++ B) (l.length + i) n = piece B i n := by
  unfold piece
  rw [List.drop_append, List.drop_eq_nil_of_le (by omega), List.nil_append, Nat.add_sub_cancel_left]
theorem words_back {l ws : List Nat} (hw : ∀ x ∈ ws, x < 4294967296) : wordsOf (l ++ bytesOf ws) l.length ws.length = ws := by
  apply List.ext_getElem?
  intro i
  by_cases h : i < ws.length
  · rw [wordsOf_at h, piece_behind, bytesOf_piece ws i ws[i] (List.getElem?_eq_getElem h), leN_num, List.getElem?_eq_getElem h]
    congr 1
    have := hw ws[i] (List.getElem_mem h)
    show ws[i] % 4294967296 = ws[i]
    omega
  · rw [List.getElem?_eq_none (by rw [wordsOf_len]; omega), List.getElem?_eq_none (by omega)]

set_option maxRecDepth 100000 in
set_option maxHeartbeats 1000000 in
theorem putWords_calls (lo ro : Option Addr) (lc rc : Nat) (l ws : List Nat) (w : World) (hl : HasB w (.slice lo l.length lc) l) (hr : HasW w (.slice ro ws.length rc) ws) (hm : l.length ≤ 140737488351232) (hwm : ws.length * 4 ≤ 140737488351232) (hc : lo = none → lc = 0) (hw : ∀ x ∈ ws, x < 4294967296) :
    Calls Try.prog 10 #[.slice lo l.length lc, .slice ro ws.length rc] w fun e w' => ∃ g, e = .returned (.slice (some ⟨g, 0, none⟩) (l.length + 4 * ws.length) (l.length + 4 * ws.length)) ∧ Room w w' g (l.length + 4 * ws.length) (l ++ bytesOf ws) := by
  have HR := roomier_calls lo lc l (4 * ws.length) w hl (by omega) hc
  have HL : Hid (HasW w (.slice ro ws.length rc) ws ∧ ∀ x ∈ ws, x < 4294967296) := ⟨hr, hw⟩
  have hcast : ((4 * ws.length : Nat) : Int) = 4 * (ws.length : Int) := by omega
  rw [hcast] at HR
  clear hl hr hc hw hcast
  go_enter Try.func10, Try.ntmps10
  go_wp2_with (go_at_call 16; refine HR.mono ?_; rintro e w1 ⟨g, rfl, hr1⟩; have H1 : Hid (Room w w1 g (l.length + 4 * ws.length) l) := hr1; clear hr1)
  go_loopw [5, 15] (fun ov nv wr => ∃ k : Nat, k ≤ ws.length ∧ nv = .int .i64 k ∧ ov = .slice (some ⟨g, 0, none⟩) (l.length + 4 * k) (l.length + 4 * ws.length) ∧ Room w wr g (l.length + 4 * ws.length) (l ++ bytesOf (ws.take k))) (fun _ nv _ => ws.length - (intOf nv).toNat)
  case atStart => exact ⟨0, Nat.zero_le _, rfl, rfl, by show Room w w1 g _ (l ++ []); rw [List.append_nil]; exact H1.out⟩
  case round =>
    obtain ⟨k, hk, rfl, rfl, hR⟩ := hrel
    have HK : Hid (Room w wr g (l.length + 4 * ws.length) (l ++ bytesOf (ws.take k))) := hR
    by_cases hlt : k < ws.length
    · obtain ⟨x, hx⟩ : ∃ a, ws[k]? = some a := ⟨ws[k], List.getElem?_eq_getElem hlt⟩
      obtain ⟨b, off, hlo, hbl, q0⟩ := HL.out.1.at hx
      subst hlo
      have c0 := (hR.below.cell (p := ⟨b, off + k, none⟩) hbl).trans q0
      have hx4 : x < 4294967296 := HL.out.2 x (List.mem_of_getElem? hx)
      have hlen : (l ++ bytesOf (ws.take k)).length = l.length + 4 * k := by rw [List.length_append, bytesOf_len, List.length_take, Nat.min_eq_left (by omega)]
      have HT : Hid (l ++ bytesOf (ws.take (k + 1)) = (l ++ bytesOf (ws.take k)) ++ leN x 4) := (by rw [take_more hx, bytesOf_snoc, List.append_assoc] : l ++ bytesOf (ws.take (k + 1)) = (l ++ bytesOf (ws.take k)) ++ leN x 4)
      have hBh := behind_calls w g (l.length + 4 * ws.length) (l ++ bytesOf (ws.take k)) x 4 (by omega) wr hR (by rw [hlen]; omega) (by omega)
      rw [hlen, ← HT.out] at hBh
      have i1 : (k : Int) < (ws.length : Int) := by omega
      have i2 : (0 : Int) ≤ (k : Int) := by omega
      have hxI : (x : Int) ≤ 4294967295 := by omega
      clear q0 hx hR hlen hx4
      go_wp2_with (go_at_call 15; refine hBh.mono ?_; rintro e w2 ⟨rfl, hr2⟩; have H2 : Hid (Room w w2 g (l.length + 4 * ws.length) (l ++ bytesOf (ws.take (k + 1)))) := hr2; clear hr2)
      exact ⟨⟨k + 1, by omega, by rw [show (k : Int) + 1 = ((k + 1 : Nat) : Int) by omega], by congr 1, H2.out⟩, by simp only [intOf]; omega⟩
    · obtain rfl : k = ws.length := by omega
      have HK2 : Hid (Room w wr g (l.length + 4 * ws.length) (l ++ bytesOf ws)) := by rw [List.take_length] at hR; exact hR
      clear hR HK
      go_wp2_with fail
      go_ret
      exact ⟨g, rfl, HK2.out⟩

theorem slice_upB (b off n lc i : Nat) (h : n ≤ lc) (hi : i ≤ n) (w : World) : (Instr.slice 22 (.slice (some ⟨b, off, none⟩) n lc) none (some (.int .i64 (i : Int))) none).run Try.prog w = .ok (.slice (some ⟨b, off, none⟩) i lc) w := by
  rw [run_slice_h (ht := Try.elemO) (h0 := by omega) (h2 := by omega), Try.sizeO]
  have e2 : (i : Int).toNat = i := by omega
  simp only [Result.andThen_ok, sliced, e2]
  simp [Addr.add]
theorem hasB_tk {w : World} {lo : Option Addr} {lc n : Nat} {l : List Nat} (h : HasB w (.slice lo n lc) l) (k : Nat) : HasB w (.slice lo (l.take k).length lc) (l.take k) := by
  refine ⟨lo, lc, rfl, fun j a hj => ?_⟩
  have hj' : l[j]? = some a := by
    rw [List.getElem?_take] at hj
    split at hj
    · exact hj
    · cases hj
  exact h.at hj'

set_option maxRecDepth 100000 in
set_option maxHeartbeats 2000000 in
theorem there_calls (lo ro : Option Addr) (lc rc : Nat) (l ws : List Nat) (v : Nat) (hv : v < 18446744073709551616) (n : Int) (w : World) (hl : HasB w (.slice lo l.length lc) l) (hr : HasW w (.slice ro ws.length rc) ws) (hb : Bts l) (hm : l.length ≤ 140737488351232) (hwm : ws.length * 4 ≤ 140737488351232) (hc : lo = none → lc = 0) (hw : ∀ x ∈ ws, x < 4294967296) :
    Calls Try.prog 3 #[.slice lo l.length lc, .int .u64 (v : Int), .int .i64 n, .slice ro ws.length rc] w fun e w' => e = .returned (.bool true) ∧ Below w.heap.size w w' := by
  have HA := awake18_calls w
  have HL : Hid ((HasB w (.slice lo l.length lc) l ∧ Bts l ∧ (lo = none → lc = 0)) ∧ HasW w (.slice ro ws.length rc) ws ∧ ∀ x ∈ ws, x < 4294967296) := ⟨⟨hl, hb, hc⟩, hr, hw⟩
  have HV : Hid (v < 18446744073709551616) := hv
  clear hl hr hb hc hw hv
  go_enter Try.func3, Try.ntmps3
  go_wp2_with (go_at_call 5; refine HA.mono ?_; rintro e w1 ⟨rfl, hb1⟩; have H1 : Hid (Below w.heap.size w w1) := hb1; clear hb1)
  refine (twin18 HL.out.1.1 H1.out (by omega) HL.out.1.2.2).mono ?_
  rintro e w2 ⟨mo, mc, rfl, hB, hb⟩
  have H2 : Hid ((HasB w2 (.slice mo l.length mc) l ∧ (mo = none → mc = 0)) ∧ Below w.heap.size w w2) := ⟨⟨hB.1, hB.2.2⟩, hb⟩
  clear hB hb
  go_wp2_with fail
  refine (put_calls mo mc l v HV.out n w2 H2.out.1.1 (by omega) H2.out.1.2).mono ?_
  -- the second half of the law, from any world above
  have HE : Hid (∀ w3, Below w.heap.size w w3 → True) := fun _ _ => trivial
  rintro e w3 (⟨g1, g2, gv, g, rfl, hR⟩ | ⟨gn, rfl, rfl⟩ | ⟨g1, g2, gv, rfl, rfl⟩)
  · obtain ⟨k, rfl⟩ : ∃ k : Nat, n = k := ⟨n.toNat, by omega⟩
    have hR' : Room w2 w3 g (l.length + k) (l ++ leN v k) := hR
    have H3 : Hid (Room w2 w3 g (l.length + k) (l ++ leN v k) ∧ Below w.heap.size w w3) := ⟨hR', H2.out.2.trans (hR'.below.mono H2.out.2.size)⟩
    have HN : Hid (num (piece (l ++ leN v k) l.length k) = v) := by
      show num (piece (l ++ leN v k) l.length k) = v
      have e1 := piece_behind l (leN v k) 0 k
      rw [Nat.add_zero] at e1
      rw [e1]
      unfold piece
      rw [List.drop_zero, List.take_of_length_le (by rw [leN_len]; exact Nat.le_refl _), leN_num]
      exact Nat.mod_eq_of_lt gv
    clear hR hR' gv
    have hlk : (l ++ leN v k).length = l.length + k := by rw [List.length_append, leN_len]
    have hTk := take_good (w0 := w3) (a := l.length) (k := k) (Below.refl _ _) (by have h := H3.out.1.has; rw [hlk] at h; rw [hlk]; exact h) (HL.out.1.2.1.app (leN_bts k v)) (by omega) (by omega) (by omega) (by omega) (by omega) rfl
    rw [HN.out, hlk] at hTk
    show _
    go_wp2_with fail
    refine hTk.mono ?_
    rintro e w4 ⟨rfl, hb4⟩
    have H4 : Hid (HasB w4 (.slice (some ⟨g, 0, none⟩) (l ++ leN v k).length (l.length + k)) (l ++ leN v k) ∧ Below w.heap.size w w4) := ⟨H3.out.1.has.keep hb4, H3.out.2.trans (hb4.mono H3.out.2.size)⟩
    clear hb4 hTk HE
    have hsl1 : ∀ wx, (Instr.slice 22 (.slice (some ⟨g, 0, none⟩) (l.length + k) (l.length + k)) none (some (.int .i64 (l.length : Int))) none).run Try.prog wx = .ok (.slice (some ⟨g, 0, none⟩) l.length (l.length + k)) wx := fun wx => slice_upB g 0 (l.length + k) (l.length + k) l.length (by omega) (by omega) wx
    have hHB1 : HasB w4 (.slice (some ⟨g, 0, none⟩) l.length (l.length + k)) l := by
      have h := hasB_tk H4.out.1 l.length
      rw [List.take_left] at h
      exact h
    have hS1 := kSame_calls (some ⟨g, 0, none⟩) lo (l.length + k) lc l w4 hHB1 (HL.out.1.1.keep H4.out.2)
    have hwr : IntKind.i64.wrap ((l.length : Int) + (k : Int)) = (l.length : Int) + (k : Int) := by rw [IntKind.wrap_i64] <;> omega
    clear hHB1 hlk
    go_wp2_with fail
    refine hS1.mono ?_
    rintro e w5 ⟨rfl, rfl⟩
    clear hS1 hsl1
    go_wp2_with fail
    refine (twin18 HL.out.1.1 H4.out.2 (by omega) HL.out.1.2.2).mono ?_
    rintro e wA ⟨so, sc, rfl, hB, hb⟩
    have HA1 : Hid ((HasB wA (.slice so l.length sc) l ∧ (so = none → sc = 0)) ∧ Below w.heap.size w wA) := ⟨⟨hB.1, hB.2.2⟩, hb⟩
    clear hB hb
    go_wp2_with fail
    refine (twinW_calls ro rc ws wA (HL.out.2.1.keep HA1.out.2) hwm).mono ?_
    rintro e wB ⟨to, tc, rfl, ho, hb⟩
    have HB1 : Hid ((HasB wB (.slice so l.length sc) l ∧ HasW wB (.slice to ws.length tc) ws) ∧ Below w.heap.size w wB) := ⟨⟨HA1.out.1.1.keep hb, hasW_own ho⟩, HA1.out.2.trans (hb.mono HA1.out.2.size)⟩
    clear ho hb
    go_wp2_with fail
    refine (putWords_calls so to sc tc l ws wB HB1.out.1.1 HB1.out.1.2 hm hwm HA1.out.1.2 HL.out.2.2).mono ?_
    rintro e wC ⟨gC, rfl, hR⟩
    have HC1 : Hid ((HasB wC (.slice (some ⟨gC, 0, none⟩) (l ++ bytesOf ws).length (l.length + 4 * ws.length)) (l ++ bytesOf ws)) ∧ Below w.heap.size w wC) := ⟨hR.has, HB1.out.2.trans (hR.below.mono HB1.out.2.size)⟩
    clear hR
    have hlen : (l ++ bytesOf ws).length = l.length + 4 * ws.length := by rw [List.length_append, bytesOf_len]
    have hWd := words_calls (some ⟨gC, 0, none⟩) (l.length + 4 * ws.length) (l ++ bytesOf ws) (l.length : Int) (ws.length : Int) wC HC1.out.1 (HL.out.1.2.1.app (bytesOf_bts ws)) (by omega) (by omega) (by omega) (Or.inl (by omega))
    rw [hlen] at hWd
    go_wp2_with fail
    refine hWd.mono ?_
    rintro e wD ⟨hbD, ⟨_, _, _, uo, uc, rfl, hoD⟩ | ⟨hbad, _⟩⟩
    · have hoD' : wD.ownsRow wC.heap.size 40 1 (.slice uo ws.length uc) ws.length (wv (wordsOf (l ++ bytesOf ws) l.length ws.length)) := hoD
      rw [words_back HL.out.2.2] at hoD'
      have HD1 : Hid ((HasW wD (.slice uo ws.length uc) ws ∧ HasB wD (.slice (some ⟨gC, 0, none⟩) (l ++ bytesOf ws).length (l.length + 4 * ws.length)) (l ++ bytesOf ws)) ∧ Below w.heap.size w wD) := ⟨⟨hasW_own hoD', HC1.out.1.keep hbD⟩, HC1.out.2.trans (hbD.mono HC1.out.2.size)⟩
      clear hoD hoD' hbD hWd
      have hsW := sameW_calls uo ro uc rc ws wD HD1.out.1.1 (HL.out.2.1.keep HD1.out.2) (by omega)
      show _
      go_wp2_with fail
      refine hsW.mono ?_
      rintro e wE ⟨rfl, hbE⟩
      have HE1 : Hid (HasB wE (.slice (some ⟨gC, 0, none⟩) (l ++ bytesOf ws).length (l.length + 4 * ws.length)) (l ++ bytesOf ws) ∧ Below w.heap.size w wE) := ⟨HD1.out.1.2.keep hbE, HD1.out.2.trans (hbE.mono HD1.out.2.size)⟩
      clear hbE hsW
      have hsl : ∀ wx, (Instr.slice 22 (.slice (some ⟨gC, 0, none⟩) (l.length + 4 * ws.length) (l.length + 4 * ws.length)) none (some (.int .i64 (l.length : Int))) none).run Try.prog wx = .ok (.slice (some ⟨gC, 0, none⟩) l.length (l.length + 4 * ws.length)) wx := fun wx => slice_upB gC 0 (l.length + 4 * ws.length) (l.length + 4 * ws.length) l.length (by omega) (by omega) wx
      have hHB : HasB wE (.slice (some ⟨gC, 0, none⟩) l.length (l.length + 4 * ws.length)) l := by
        have h := hasB_tk HE1.out.1 l.length
        rw [List.take_left] at h
        exact h
      have hS := kSame_calls (some ⟨gC, 0, none⟩) lo (l.length + 4 * ws.length) lc l wE hHB (HL.out.1.1.keep HE1.out.2)
      clear hHB hlen
      go_wp2_with fail
      refine hS.mono ?_
      rintro e wF ⟨rfl, rfl⟩
      go_wp2_with fail
      go_ret
      exact ⟨rfl, HE1.out.2⟩
    · omega
  · show _
    go_wp2_with fail
    refine (twin18 HL.out.1.1 H2.out.2 (by omega) HL.out.1.2.2).mono ?_
    rintro e wA ⟨so, sc, rfl, hB, hb⟩
    have HA1 : Hid ((HasB wA (.slice so l.length sc) l ∧ (so = none → sc = 0)) ∧ Below w.heap.size w wA) := ⟨⟨hB.1, hB.2.2⟩, hb⟩
    clear hB hb
    go_wp2_with fail
    refine (twinW_calls ro rc ws wA (HL.out.2.1.keep HA1.out.2) hwm).mono ?_
    rintro e wB ⟨to, tc, rfl, ho, hb⟩
    have HB1 : Hid ((HasB wB (.slice so l.length sc) l ∧ HasW wB (.slice to ws.length tc) ws) ∧ Below w.heap.size w wB) := ⟨⟨HA1.out.1.1.keep hb, hasW_own ho⟩, HA1.out.2.trans (hb.mono HA1.out.2.size)⟩
    clear ho hb
    go_wp2_with fail
    refine (putWords_calls so to sc tc l ws wB HB1.out.1.1 HB1.out.1.2 hm hwm HA1.out.1.2 HL.out.2.2).mono ?_
    rintro e wC ⟨gC, rfl, hR⟩
    have HC1 : Hid ((HasB wC (.slice (some ⟨gC, 0, none⟩) (l ++ bytesOf ws).length (l.length + 4 * ws.length)) (l ++ bytesOf ws)) ∧ Below w.heap.size w wC) := ⟨hR.has, HB1.out.2.trans (hR.below.mono HB1.out.2.size)⟩
    clear hR
    have hlen : (l ++ bytesOf ws).length = l.length + 4 * ws.length := by rw [List.length_append, bytesOf_len]
    have hWd := words_calls (some ⟨gC, 0, none⟩) (l.length + 4 * ws.length) (l ++ bytesOf ws) (l.length : Int) (ws.length : Int) wC HC1.out.1 (HL.out.1.2.1.app (bytesOf_bts ws)) (by omega) (by omega) (by omega) (Or.inl (by omega))
    rw [hlen] at hWd
    go_wp2_with fail
    refine hWd.mono ?_
    rintro e wD ⟨hbD, ⟨_, _, _, uo, uc, rfl, hoD⟩ | ⟨hbad, _⟩⟩
    · have hoD' : wD.ownsRow wC.heap.size 40 1 (.slice uo ws.length uc) ws.length (wv (wordsOf (l ++ bytesOf ws) l.length ws.length)) := hoD
      rw [words_back HL.out.2.2] at hoD'
      have HD1 : Hid ((HasW wD (.slice uo ws.length uc) ws ∧ HasB wD (.slice (some ⟨gC, 0, none⟩) (l ++ bytesOf ws).length (l.length + 4 * ws.length)) (l ++ bytesOf ws)) ∧ Below w.heap.size w wD) := ⟨⟨hasW_own hoD', HC1.out.1.keep hbD⟩, HC1.out.2.trans (hbD.mono HC1.out.2.size)⟩
      clear hoD hoD' hbD hWd
      have hsW := sameW_calls uo ro uc rc ws wD HD1.out.1.1 (HL.out.2.1.keep HD1.out.2) (by omega)
      show _
      go_wp2_with fail
      refine hsW.mono ?_
      rintro e wE ⟨rfl, hbE⟩
      have HE1 : Hid (HasB wE (.slice (some ⟨gC, 0, none⟩) (l ++ bytesOf ws).length (l.length + 4 * ws.length)) (l ++ bytesOf ws) ∧ Below w.heap.size w wE) := ⟨HD1.out.1.2.keep hbE, HD1.out.2.trans (hbE.mono HD1.out.2.size)⟩
      clear hbE hsW
      have hsl : ∀ wx, (Instr.slice 22 (.slice (some ⟨gC, 0, none⟩) (l.length + 4 * ws.length) (l.length + 4 * ws.length)) none (some (.int .i64 (l.length : Int))) none).run Try.prog wx = .ok (.slice (some ⟨gC, 0, none⟩) l.length (l.length + 4 * ws.length)) wx := fun wx => slice_upB gC 0 (l.length + 4 * ws.length) (l.length + 4 * ws.length) l.length (by omega) (by omega) wx
      have hHB : HasB wE (.slice (some ⟨gC, 0, none⟩) l.length (l.length + 4 * ws.length)) l := by
        have h := hasB_tk HE1.out.1 l.length
        rw [List.take_left] at h
        exact h
      have hS := kSame_calls (some ⟨gC, 0, none⟩) lo (l.length + 4 * ws.length) lc l wE hHB (HL.out.1.1.keep HE1.out.2)
      clear hHB hlen
      go_wp2_with fail
      refine hS.mono ?_
      rintro e wF ⟨rfl, rfl⟩
      go_wp2_with fail
      go_ret
      exact ⟨rfl, HE1.out.2⟩
    · omega
  · show _
    go_wp2_with fail
    refine (twin18 HL.out.1.1 H2.out.2 (by omega) HL.out.1.2.2).mono ?_
    rintro e wA ⟨so, sc, rfl, hB, hb⟩
    have HA1 : Hid ((HasB wA (.slice so l.length sc) l ∧ (so = none → sc = 0)) ∧ Below w.heap.size w wA) := ⟨⟨hB.1, hB.2.2⟩, hb⟩
    clear hB hb
    go_wp2_with fail
    refine (twinW_calls ro rc ws wA (HL.out.2.1.keep HA1.out.2) hwm).mono ?_
    rintro e wB ⟨to, tc, rfl, ho, hb⟩
    have HB1 : Hid ((HasB wB (.slice so l.length sc) l ∧ HasW wB (.slice to ws.length tc) ws) ∧ Below w.heap.size w wB) := ⟨⟨HA1.out.1.1.keep hb, hasW_own ho⟩, HA1.out.2.trans (hb.mono HA1.out.2.size)⟩
    clear ho hb
    go_wp2_with fail
    refine (putWords_calls so to sc tc l ws wB HB1.out.1.1 HB1.out.1.2 hm hwm HA1.out.1.2 HL.out.2.2).mono ?_
    rintro e wC ⟨gC, rfl, hR⟩
    have HC1 : Hid ((HasB wC (.slice (some ⟨gC, 0, none⟩) (l ++ bytesOf ws).length (l.length + 4 * ws.length)) (l ++ bytesOf ws)) ∧ Below w.heap.size w wC) := ⟨hR.has, HB1.out.2.trans (hR.below.mono HB1.out.2.size)⟩
    clear hR
    have hlen : (l ++ bytesOf ws).length = l.length + 4 * ws.length := by rw [List.length_append, bytesOf_len]
    have hWd := words_calls (some ⟨gC, 0, none⟩) (l.length + 4 * ws.length) (l ++ bytesOf ws) (l.length : Int) (ws.length : Int) wC HC1.out.1 (HL.out.1.2.1.app (bytesOf_bts ws)) (by omega) (by omega) (by omega) (Or.inl (by omega))
    rw [hlen] at hWd
    go_wp2_with fail
    refine hWd.mono ?_
    rintro e wD ⟨hbD, ⟨_, _, _, uo, uc, rfl, hoD⟩ | ⟨hbad, _⟩⟩
    · have hoD' : wD.ownsRow wC.heap.size 40 1 (.slice uo ws.length uc) ws.length (wv (wordsOf (l ++ bytesOf ws) l.length ws.length)) := hoD
      rw [words_back HL.out.2.2] at hoD'
      have HD1 : Hid ((HasW wD (.slice uo ws.length uc) ws ∧ HasB wD (.slice (some ⟨gC, 0, none⟩) (l ++ bytesOf ws).length (l.length + 4 * ws.length)) (l ++ bytesOf ws)) ∧ Below w.heap.size w wD) := ⟨⟨hasW_own hoD', HC1.out.1.keep hbD⟩, HC1.out.2.trans (hbD.mono HC1.out.2.size)⟩
      clear hoD hoD' hbD hWd
      have hsW := sameW_calls uo ro uc rc ws wD HD1.out.1.1 (HL.out.2.1.keep HD1.out.2) (by omega)
      show _
      go_wp2_with fail
      refine hsW.mono ?_
      rintro e wE ⟨rfl, hbE⟩
      have HE1 : Hid (HasB wE (.slice (some ⟨gC, 0, none⟩) (l ++ bytesOf ws).length (l.length + 4 * ws.length)) (l ++ bytesOf ws) ∧ Below w.heap.size w wE) := ⟨HD1.out.1.2.keep hbE, HD1.out.2.trans (hbE.mono HD1.out.2.size)⟩
      clear hbE hsW
      have hsl : ∀ wx, (Instr.slice 22 (.slice (some ⟨gC, 0, none⟩) (l.length + 4 * ws.length) (l.length + 4 * ws.length)) none (some (.int .i64 (l.length : Int))) none).run Try.prog wx = .ok (.slice (some ⟨gC, 0, none⟩) l.length (l.length + 4 * ws.length)) wx := fun wx => slice_upB gC 0 (l.length + 4 * ws.length) (l.length + 4 * ws.length) l.length (by omega) (by omega) wx
      have hHB : HasB wE (.slice (some ⟨gC, 0, none⟩) l.length (l.length + 4 * ws.length)) l := by
        have h := hasB_tk HE1.out.1 l.length
        rw [List.take_left] at h
        exact h
      have hS := kSame_calls (some ⟨gC, 0, none⟩) lo (l.length + 4 * ws.length) lc l wE hHB (HL.out.1.1.keep HE1.out.2)
      clear hHB hlen
      go_wp2_with fail
      refine hS.mono ?_
      rintro e wF ⟨rfl, rfl⟩
      go_wp2_with fail
      go_ret
      exact ⟨rfl, HE1.out.2⟩
    · omega
end Go.Proofs.Ytemdocnhdnhliab
