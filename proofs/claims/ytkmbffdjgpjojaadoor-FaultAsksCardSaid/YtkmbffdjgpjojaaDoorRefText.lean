/- ref01.Text: an error in words, by the reference. -/
import Derived.Test.YtkmbffdjgpjojaaDoorRefWords
import Derived.Test.YtkmbffdjgpjojaaDoorWord
import Derived.Test.YtkmbffdjgpjojaaDoorTold
namespace Go.Proofs.YtkmbffdjgpjojaaDoor
open Go.RowKit Go.Extern

theorem join_one (w sep : List UInt8) : Lib.join [w] sep = w := by simp [Lib.join, List.intercalate]
theorem join_cons' (w : List UInt8) (ws : List (List UInt8)) (sep : List UInt8) (h : ws ≠ []) : Lib.join (w :: ws) sep = w ++ sep ++ Lib.join ws sep := by
  cases ws with
  | nil => exact absurd rfl h
  | cons x xs => simp [Lib.join, List.intercalate, List.intersperse]
theorem join_snoc (x sep : List UInt8) : ∀ (ws : List (List UInt8)), ws ≠ [] → Lib.join (ws ++ [x]) sep = Lib.join ws sep ++ sep ++ x
  | [], h => absurd rfl h
  | [w], _ => by rw [List.singleton_append, join_cons' w [x] sep (by simp), join_one, join_one]
  | w :: v :: ws, _ => by
    rw [List.cons_append, join_cons' w _ sep (by simp), join_snoc x sep (v :: ws) (by simp), join_cons' w (v :: ws) sep (by simp)]
    simp
theorem join_size (ws : List (List UInt8)) (h : ∀ l ∈ ws, l.length ≤ 40) (hn : ws.length ≤ 65) : (ByteArray.mk (Lib.join ws [58, 32]).toArray).size ≤ 2730 := by
  have := inter_len [58, 32] ws h
  show (Lib.join ws [58, 32]).length ≤ 2730
  unfold Lib.join
  simp only [List.length_cons, List.length_nil] at this
  omega
theorem mk_app (a b : List UInt8) (x y : ByteArray) (hx : x = ⟨a.toArray⟩) (hy : y = ⟨b.toArray⟩) : x ++ y = ⟨(a ++ b).toArray⟩ := by
  subst hx hy; exact ByteArray.mk_append_mk a b

/-- the number in words, if there is one. -/
def codeParts (code : Int) : List (List UInt8) := if code = 0 then [] else [numText code]
theorem codeParts_zero {code : Int} (h : code = 0) : codeParts code = [] := by rw [codeParts, if_pos h]
theorem codeParts_some {code : Int} (h : ¬ code = 0) : codeParts code = [numText code] := by rw [codeParts, if_neg h]

set_option maxRecDepth 100000 in
set_option maxHeartbeats 2000000 in
theorem reftext_calls (code : Int) (po : Option Addr) (pcap : Nat) (qs : List (Int × Int)) (w : World) (hc : in64 code) (hl : HasPlaces w (.slice po qs.length pcap) qs) (hn : qs.length ≤ 64) (hin : ∀ p ∈ qs, in64 p.2) (hpow : HasPow w) :
    Calls Tryd.prog 19 #[.agg #[.int .i64 code, .slice po qs.length pcap]] w fun e w' => e = .returned (.string ⟨(Lib.join (qs.map wordOf ++ codeParts code) [58, 32]).toArray⟩) ∧ Below w.heap.size w w' := by
  have hb0 : Below w.heap.size w (w.alloc (.cells #[.int .i64 code, .slice po qs.length pcap] 40)) := (Below.refl _ _).alloc (Nat.le_refl _) _
  have HN0 : Hid ((w.alloc (.cells #[.int .i64 code, .slice po qs.length pcap] 40)).heap[w.heap.size]? = some (.cells #[.int .i64 code, .slice po qs.length pcap] 40)) := heap_new _ _
  have HL : Hid (HasPlaces w (.slice po qs.length pcap) qs) := hl
  have HIN : Hid (∀ p ∈ qs, in64 p.2) := hin
  have HPW : Hid (HasPow w) := hpow
  have HCI : Hid (in64 code) := hc
  have HB0 : Hid (Below w.heap.size w (w.alloc (.cells #[.int .i64 code, .slice po qs.length pcap] 40))) := hb0
  have HWL : Hid (∀ k, ∀ l ∈ (qs.take k).map wordOf, l.length ≤ 40) := fun k l hl => by
    obtain ⟨p, hp, rfl⟩ := List.mem_map.1 hl
    have := word_len p (HIN.out p (List.mem_of_mem_take hp))
    omega
  clear hl hin hpow hc hb0
  go_enter Tryd.func19, Tryd.ntmps19
  go_wp2_with fail
  go_loopw [3, 9] (fun sv iv wr => ∃ k : Nat, k ≤ qs.length ∧ iv = .int .i64 k ∧ sv = .string ⟨(Lib.join ((qs.take k).map wordOf) [58, 32]).toArray⟩ ∧ Below (w.heap.size + 1) (w.alloc (.cells #[.int .i64 code, .slice po qs.length pcap] 40)) wr) (fun _ iv _ => qs.length - (intOf iv).toNat)
  case atStart => exact ⟨0, Nat.zero_le _, rfl, rfl, Below.refl _ _⟩
  case round =>
    obtain ⟨k, hk, rfl, rfl, hbw⟩ := hrel
    have hsz : w.heap.size + 1 ≤ wr.heap.size := by have := hbw.size; simpa using this
    have HBW : Hid (Below w.heap.size w wr) := HB0.out.trans (hbw.mono (by omega))
    have HBX : Hid (Below (w.heap.size + 1) (w.alloc (.cells #[.int .i64 code, .slice po qs.length pcap] 40)) wr) := hbw
    have hS := join_size ((qs.take k).map wordOf) (HWL.out k) (by simp; omega)
    by_cases hlt : k < qs.length
    · obtain ⟨p, hp⟩ : ∃ p, qs[k]? = some p := ⟨qs[k], List.getElem?_eq_getElem hlt⟩
      obtain ⟨b, off, hao, hbl, q0, q1⟩ := places_at HL.out hp
      subst hao
      have c0 := (HBW.out.cell (p := ⟨b, off + k * 2, none⟩) hbl).trans q0
      have c1 := (HBW.out.cell (p := ⟨b, off + k * 2 + 1, none⟩) hbl).trans q1
      obtain ⟨hlt', he⟩ := List.getElem?_eq_some_iff.1 hp
      have hpin : in64 p.2 := HIN.out p (List.mem_of_getElem? hp)
      have hD := word_len p hpin
      have hD' : (ByteArray.mk (wordOf p).toArray).size ≤ 27 := hD
      have htk : (qs.take (k + 1)).map wordOf = (qs.take k).map wordOf ++ [wordOf p] := by
        rw [List.take_succ_eq_append_getElem hlt, List.map_append, he]; rfl
      have HW : Hid (∀ wx, Below w.heap.size w wx → Calls Tryd.prog 27 #[.agg #[.int .i64 p.1, .int .i64 p.2]] wx fun e w' => e = .returned (.string ⟨(wordOf p).toArray⟩) ∧ Below wx.heap.size wx w') := fun wx hb => word_calls p hpin wx (HPW.out.keep hb)
      have HS0 : Hid (k = 0 → ByteArray.mk (Lib.join ((qs.take k).map wordOf) [58, 32]).toArray ++ ByteArray.mk (wordOf p).toArray = ⟨(Lib.join ((qs.take (k + 1)).map wordOf) [58, 32]).toArray⟩) := fun h => by
        subst h
        rw [htk]
        simp only [List.take_zero, List.map_nil, List.nil_append, join_one]
        exact mk_app [] (wordOf p) _ _ rfl rfl
      have HS1 : Hid (¬ k = 0 → (ByteArray.mk (Lib.join ((qs.take k).map wordOf) [58, 32]).toArray ++ ByteArray.mk #[58, 32]) ++ ByteArray.mk (wordOf p).toArray = ⟨(Lib.join ((qs.take (k + 1)).map wordOf) [58, 32]).toArray⟩) := fun h => by
        rw [htk, join_snoc _ _ _ (by
          intro hh
          have := congrArg List.length hh
          simp only [List.length_map, List.length_take, List.length_nil] at this
          omega)]
        exact mk_app _ _ _ _ (mk_app _ [58, 32] _ _ rfl rfl) rfl
      clear q0 q1 hp htk hpin he hlt' hbw hD
      generalize ByteArray.mk (wordOf p).toArray = D at HW HS0 HS1 hD'
      generalize ByteArray.mk (Lib.join ((qs.take k).map wordOf) [58, 32]).toArray = S at HS0 HS1 hS
      by_cases hk0 : k = 0
      · have hpos : ¬ (0 : Int) < k := by omega
        have s1 : ¬ 9223372036854775807 < S.size + D.size := by omega
        have hR := HS0.out hk0
        clear hk0 HS0 HS1
        go_wp2_with fail
        refine (HW.out _ (HBW.out.alloc (by omega) _)).mono ?_
        rintro e w3 ⟨rfl, hb3⟩
        have HN : Hid (Below (w.heap.size + 1) (w.alloc (.cells #[.int .i64 code, .slice (some ⟨b, off, none⟩) qs.length pcap] 40)) w3) := (HBX.out.alloc (by omega) _).trans (hb3.mono (by simp; omega))
        clear hb3
        go_wp2
        first
          | exact ⟨⟨k + 1, by omega, by go_num, rfl, HN.out⟩, by simp [intOf]; omega⟩
          | (go_roundw
             case rel => exact ⟨k + 1, by omega, by go_num, by rw [List.map_take], HN.out⟩
             case measure => simp [intOf]; omega)
      · have hpos : (0 : Int) < k := by omega
        have s0 : ¬ 9223372036854775807 < S.size + 2 := by omega
        have s1 : ¬ 9223372036854775807 < S.size + 2 + D.size := by omega
        have hR := HS1.out hk0
        clear hk0 HS0 HS1
        go_wp2_with fail
        refine (HW.out _ (HBW.out.alloc (by omega) _)).mono ?_
        rintro e w3 ⟨rfl, hb3⟩
        have HN : Hid (Below (w.heap.size + 1) (w.alloc (.cells #[.int .i64 code, .slice (some ⟨b, off, none⟩) qs.length pcap] 40)) w3) := (HBX.out.alloc (by omega) _).trans (hb3.mono (by simp; omega))
        clear hb3
        go_wp2
        first
          | exact ⟨⟨k + 1, by omega, by go_num, rfl, HN.out⟩, by simp [intOf]; omega⟩
          | (go_roundw
             case rel => exact ⟨k + 1, by omega, by go_num, by rw [List.map_take], HN.out⟩
             case measure => simp [intOf]; omega)
    · obtain rfl : k = qs.length := by omega
      rw [List.take_length] at hS ⊢
      obtain ⟨c0, c1, _, _⟩ := cell_two ((hbw.block w.heap.size (by omega)).trans HN0.out)
      by_cases hc0 : code = 0
      · have hcb : (code != 0) = false := by simp [hc0]
        have HE : Hid ((qs.map wordOf ++ codeParts code) = qs.map wordOf) := by show _ = _; rw [codeParts_zero hc0, List.append_nil]
        clear hc0 hbw
        go_wp2
        go_ret
        refine ⟨?_, HBW.out⟩
        rw [HE.out]; rfl
      · have hcb : (code != 0) = true := by simp [hc0]
        have HWD : Hid (Calls Tryd.prog 41 #[.int .i64 code] wr fun e w' => e = .returned (.string ⟨(numText code).toArray⟩) ∧ Below wr.heap.size wr w') := words_calls code HCI.out wr (HPW.out.keep HBW.out)
        have hNT : (ByteArray.mk (numText code).toArray).size ≤ 31 := numText_len code HCI.out
        have HE0 : Hid (qs.length = 0 → ByteArray.mk (Lib.join (qs.map wordOf) [58, 32]).toArray ++ ByteArray.mk (numText code).toArray = ⟨(Lib.join (qs.map wordOf ++ codeParts code) [58, 32]).toArray⟩) := fun h => by
          have hq : qs = [] := List.eq_nil_of_length_eq_zero h
          subst hq
          rw [codeParts_some hc0, List.map_nil, List.nil_append, join_one]
          exact mk_app [] (numText code) _ _ rfl rfl
        have HE1 : Hid (¬ qs.length = 0 → (ByteArray.mk (Lib.join (qs.map wordOf) [58, 32]).toArray ++ ByteArray.mk #[58, 32]) ++ ByteArray.mk (numText code).toArray = ⟨(Lib.join (qs.map wordOf ++ codeParts code) [58, 32]).toArray⟩) := fun h => by
          rw [codeParts_some hc0, join_snoc _ _ _ (by
            intro hh
            have := congrArg List.length hh
            simp only [List.length_map, List.length_nil] at this
            omega)]
          exact mk_app _ _ _ _ (mk_app _ [58, 32] _ _ rfl rfl) rfl
        clear hc0 hbw
        generalize hRR : ByteArray.mk (Lib.join (qs.map wordOf ++ codeParts code) [58, 32]).toArray = R at HE0 HE1
        have HRR : Hid (ByteArray.mk (Lib.join (qs.map wordOf ++ codeParts code) [58, 32]).toArray = R) := hRR
        clear hRR
        generalize ByteArray.mk (numText code).toArray = D at HWD HE0 HE1 hNT
        generalize ByteArray.mk (Lib.join (qs.map wordOf) [58, 32]).toArray = S at HE0 HE1 hS ⊢
        by_cases hq0 : qs.length = 0
        · have hpos : ¬ (0 : Int) < qs.length := by omega
          have s1 : ¬ 9223372036854775807 < S.size + D.size := by omega
          have hR := HE0.out hq0
          clear hq0 HE0 HE1
          go_wp2_with fail
          refine HWD.out.mono ?_
          rintro e w3 ⟨rfl, hb3⟩
          have HB3 : Hid (Below w.heap.size w w3) := HBW.out.trans (hb3.mono HBW.out.size)
          clear hb3
          go_wp2
          go_ret
          refine ⟨?_, HB3.out⟩
          rw [HRR.out]; rfl
        · have hpos : (0 : Int) < qs.length := by omega
          have s0 : ¬ 9223372036854775807 < S.size + 2 := by omega
          have s1 : ¬ 9223372036854775807 < S.size + 2 + D.size := by omega
          have hR := HE1.out hq0
          clear hq0 HE0 HE1
          go_wp2_with fail
          refine HWD.out.mono ?_
          rintro e w3 ⟨rfl, hb3⟩
          have HB3 : Hid (Below w.heap.size w w3) := HBW.out.trans (hb3.mono HBW.out.size)
          clear hb3
          go_wp2
          go_ret
          refine ⟨?_, HB3.out⟩
          rw [HRR.out]; rfl
end Go.Proofs.YtkmbffdjgpjojaaDoor
