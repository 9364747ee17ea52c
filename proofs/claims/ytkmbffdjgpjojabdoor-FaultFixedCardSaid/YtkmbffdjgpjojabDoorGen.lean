/- fault.Code, Places and Text over chains whatever they end in: in nothing, in a number, in an error of another kind. -/
import Derived.Test.YtkmbffdjgpjojabDoorTextW
import Derived.Test.YtkmbffdjgpjojabDoorOther
namespace Go.Proofs.YtkmbffdjgpjojabDoor
open Go.RowKit Go.Extern

set_option maxHeartbeats 1000000 in
theorem code_gen (ps : List (Int × Int)) {tv : Value} (htv : Tail3 tv) (v : Value) (w : World) (hv : IsErr w tv ps v) (hg : HasType w) :
    Calls Tryd.prog 8 #[v] w fun e w' => e = .returned (.int .i64 (codeOf (cutTail (strip tv) ps 64))) ∧ Below w.heap.size w w' := by
  have hb0 : Below w.heap.size w (w.alloc (.cells #[.int .i64 0] 27)) := (Below.refl _ _).alloc (Nat.le_refl _) _
  have HV : Hid (IsErr (w.alloc (.cells #[.int .i64 0] 27)) tv ps v) := hv.keep (Below.keeps hb0)
  have HG : Hid (HasType (w.alloc (.cells #[.int .i64 0] 27))) := hg.keep hb0 hg.pos
  have HN : Hid ((w.alloc (.cells #[.int .i64 0] 27)).heap[w.heap.size]? = some (.cells #[.int .i64 0] 27)) := heap_new _ _
  have HT : Hid (Tail3 tv) := htv
  have hg0 : 0 < w.heap.size := hg.pos
  have hct : cutTail (strip tv) ps 64 = .nilIface ∨ ∃ n, cutTail (strip tv) ps 64 = .iface 27 (.int .i64 n) := by
    unfold cutTail; split
    · exact strip_or htv
    · exact Or.inl rfl
  rcases hct with hc | ⟨n, hc⟩
  all_goals
    have HC : Hid (cutTail (strip tv) ps 64 = _) := hc
    rw [hc]
    clear hc
  all_goals clear hv hg htv
  · go_enter Tryd.func8, Tryd.ntmps8
    go_wp2_with fail
    refine (counted_gen HT.out 64 ps v _ (by omega) HV.out).mono ?_
    rintro e w1 ⟨v1, rfl, h1, hb1⟩
    rw [HC.out] at h1
    have H1 : Hid (IsErr w1 .nilIface (ps.take 64) v1) := h1
    have HG1 : Hid (HasType w1) := HG.out.keep hb1 (by simp)
    clear h1
    go_wp2_with fail
    refine (as_num_no (ps.take 64) v1 _ w1 H1.out HG1.out).mono ?_
    rintro e w2 ⟨rfl, hb2⟩
    have hB : Below w.heap.size w w2 := (hb0.trans (hb1.mono (by simp))).trans (hb2.mono (by have := hb1.size; simp at this; omega))
    go_wp2
    go_ret
    exact ⟨rfl, hB⟩
  · go_enter Tryd.func8, Tryd.ntmps8
    go_wp2_with fail
    refine (counted_gen HT.out 64 ps v _ (by omega) HV.out).mono ?_
    rintro e w1 ⟨v1, rfl, h1, hb1⟩
    rw [HC.out] at h1
    have H1 : Hid (IsErr w1 (.iface 27 (.int .i64 n)) (ps.take 64) v1) := h1
    have HG1 : Hid (HasType w1) := HG.out.keep hb1 (by simp)
    have HN1 : Hid (w1.heap[w.heap.size]? = some (.cells #[.int .i64 0] 27)) := (hb1.block w.heap.size (by simp)).trans HN.out
    clear h1
    go_wp2_with fail
    refine (as_num (ps.take 64) n v1 w.heap.size _ w1 H1.out HG1.out HN1.out).mono ?_
    rintro e w2 ⟨rfl, h2, ht⟩
    have hcl := (cell_one h2).1
    have hB : Below w.heap.size w w2 := (hb0.trans (hb1.mono (by simp))).trans (ht.below (Nat.le_refl _) (lt_of_get HN1.out))
    clear h2
    go_wp2
    go_ret
    exact ⟨rfl, hB⟩

set_option maxHeartbeats 4000000 in
theorem places_gen {tv : Value} (htv : Tail3 tv) (ps : List (Int × Int)) (v : Value) (w : World) (hv : IsErr w tv ps v) (hg : HasType w) :
    Calls Tryd.prog 13 #[v] w fun e w' => ∃ pl, e = .returned pl ∧ w'.ownsRow w.heap.size 43 2 pl (ps.take 64).length (flat (ps.take 64)) ∧ Below w.heap.size w w' := by
  obtain ⟨i0, hi, hz0, hz1, hz2⟩ : ∃ i, Tryd.prog.info? 43 = some i ∧ i.zero = some (.agg #[.int .i64 0, .int .i64 0]) ∧ i.size = 2 ∧ i.bytes = 16 := by
    have h := Tryd.info34
    cases hi : Tryd.prog.info? 43 with
    | none => rw [hi] at h; cases h
    | some i => rw [hi] at h; simp at h; exact ⟨i, rfl, h.1, h.2.1, h.2.2⟩
  have hb0 : Below w.heap.size w (w.alloc (.cells #[.pointer none] 34)) := (Below.refl _ _).alloc (Nat.le_refl _) _
  have HV : Hid (IsErr (w.alloc (.cells #[.pointer none] 34)) tv ps v) := hv.keep (Below.keeps hb0)
  have HN : Hid ((w.alloc (.cells #[.pointer none] 34)).heap[w.heap.size]? = some (.cells #[.pointer none] 34)) := heap_new _ _
  have HG : Hid (HasType w) := hg
  have hg0 : 0 < w.heap.size := hg.pos
  have HT : Hid (Tail3 tv) := htv
  clear hv hg htv
  go_enter Tryd.func13, Tryd.ntmps13
  go_wp2_with fail
  refine (counted_gen HT.out 64 ps v _ (by omega) HV.out).mono ?_
  rintro e w1 ⟨v1, rfl, h1, hb1⟩
  have hct : cutTail (strip tv) ps 64 = .nilIface ∨ ∃ n, cutTail (strip tv) ps 64 = .iface 27 (.int .i64 n) := by
    unfold cutTail; split
    · exact strip_or HT.out
    · exact Or.inl rfl
  have hlen : (ps.take 64).length ≤ 64 := by simp; omega
  generalize hqs : ps.take 64 = qs at *
  have HQ : Hid (ps.take 64 = qs) := hqs
  clear hqs
  generalize cutTail (strip tv) ps 64 = tv' at *
  have HI : Hid (PlInv w tv' [] qs (.slice none 0 0) v1 w1) := ⟨World.ownsRow_nil _ _ _ _, h1, hb0.trans (hb1.mono (by simp)), ⟨_, (hb1.block _ (by simp)).trans HN.out⟩⟩
  have HT' : Hid (tv' = .nilIface ∨ ∃ n, tv' = .iface 27 (.int .i64 n)) := hct
  clear h1 hct hb1 hb0
  go_wp2_with fail
  go_loopw [3, 5] (fun pl rest wr => ∃ dn lf, dn ++ lf = qs ∧ PlInv w tv' dn lf pl rest wr) (fun _ rest wr => depthOf wr 64 rest)
  case atStart => exact ⟨[], qs, rfl, HI.out⟩
  case round =>
    obtain ⟨dn, lf, hq, hinv⟩ := hrel
    obtain ⟨fv, hf⟩ := hinv.var
    have hlt := lt_of_get hf
    have HGr : Hid (HasType wr) := HG.out.keep hinv.below hg0
    have HF : Hid (wr.heap[w.heap.size]? = some (.cells #[fv] 34)) := hf
    have HQd : Hid (dn ++ lf = qs) := hq
    have hdl : dn.length + lf.length ≤ 64 := by rw [← hq, List.length_append] at hlen; exact hlen
    clear hf hq hlen
    have HINV : Hid (PlInv w tv' dn lf u3 u5 wr) := hinv
    cases lf with
    | nil =>
      have hu : u5 = tv' := hinv.err
      clear hinv
      subst hu
      rcases HT'.out with h | ⟨n, h⟩
      · subst h
        go_wp2_with (go_at_call 23; refine (as_nil _ _).mono ?_; rintro e w' ⟨rfl, rfl⟩)
        go_ret
        refine ⟨_, rfl, ?_, HINV.out.below⟩
        rw [HQ.out, ← HQd.out, List.append_nil]
        exact HINV.out.own
      · subst h
        go_wp2_with (go_at_call 23; refine (as_fault_no _ _ _ HGr.out).mono ?_; rintro e w' ⟨rfl, hB⟩)
        go_ret
        refine ⟨_, rfl, ?_, HINV.out.below.trans (hB.mono (by omega))⟩
        rw [HQ.out, ← HQd.out, List.append_nil]
        exact ownsRow_keep HINV.out.own (fun g cur h => hB.block g (lt_of_get h))
    | cons p lf =>
      obtain ⟨b, u, hu, hb, hr⟩ := hinv.err
      clear hinv
      subst hu
      have HB : Hid (wr.heap[b]? = some (.cells #[.int .i64 p.1, .int .i64 p.2, u] 58)) := hb
      have HR : Hid (IsErr wr tv' lf u) := hr
      have hbne : b ≠ w.heap.size := fun e => by
        subst e
        rw [HF.out] at hb
        simp at hb
      have hblt := lt_of_get hb
      clear hb hr
      go_wp2_with fail
      refine (as_fault ⟨b, 0, none⟩ w.heap.size fv wr HGr.out HF.out).mono ?_
      rintro e w2 ⟨rfl, h2, ht⟩
      have hb2 : w2.heap[b]? = some (.cells #[.int .i64 p.1, .int .i64 p.2, u] 58) := (ht.block b hblt hbne).trans HB.out
      obtain ⟨c0, c1, c2⟩ := cell_of_fault hb2
      have cf := (cell_one h2).1
      have hs2 : w.heap.size < w2.heap.size := by have := ht.size; omega
      have HO2 : Hid (w2.ownsRow w.heap.size 43 2 u3 dn.length (flat dn)) := ownsRow_keep HINV.out.own (fun g cur h => ht.block g (lt_of_get h) (fun e => by
        subst e
        rw [HF.out] at h
        simp at h))
      have H2 : Hid (w2.heap[w.heap.size]? = some (.cells #[.pointer (some ⟨b, 0, none⟩)] 34)) := h2
      have HTt : Hid (Touch w.heap.size wr w2) := ht
      clear h2 ht hb2
      go_wp2_with (at_builtin; refine wpList_append_own _ rfl _ _ 35 rfl w.heap.size 43 i0 (.agg #[.int .i64 0, .int .i64 0]) 2 16 Tryd.underlying35 hi hz0 hz1 hz2 rfl (by decide) u3 dn.length (flat dn) rfl ?hown ⟨w2.heap.size, 0, none⟩ 1 1 [.int .i64 p.1, .int .i64 p.2] rfl rfl ?hnews ?hone ?h63 ?hby ?hbase ?_; (case hown => exact HO2.out.alloc _); (case hnews => intro j x hx; rcases j with _ | _ | j <;> simp at hx <;> subst hx <;> simp [Addr.add]); (case hone => intro x hx; simp at hx; rcases hx with rfl | rfl <;> rfl); (case h63 => unfold maxLen; omega); (case hby => omega); (case hbase => simp; omega); intro v' w3 hown' hgrow3 hnil3; have HNX := HINV.out.next HB.out HR.out H2.out HTt.out hown' hgrow3; have cf3 := (cell_one HNX.2.1).1; have cb3 := (cell_of_fault HNX.2.2).2.2)
      refine ⟨⟨dn ++ [p], lf, ?_, HNX.1⟩, ?_⟩
      · rw [List.append_assoc]; exact HQd.out
      · simp at hdl
        have d0 : ∀ (W : World) n, depthOf W n tv' = 0 := fun W n => by
          rcases HT'.out with h | ⟨m, h⟩
          · subst h; exact depthNil W n
          · subst h; exact depth24 W n _
        rw [depth_isErr (d0 w3) 64 HNX.1.err (by omega), depth_isErr (d0 wr) 64 HINV.out.err (by simp; omega)]
        simp

set_option maxRecDepth 100000 in
set_option maxHeartbeats 1000000 in
theorem text_gen {tv : Value} (htv : Tail3 tv) (ps : List (Int × Int)) (v : Value) (w : World) (hv : IsErr w tv ps v) (hg : HasType w) (hpow : HasPow w) (hin : ∀ p ∈ ps, in64 p.2) (hcode : in64 (codeOf (cutTail (strip tv) ps 64))) :
    Calls Tryd.prog 7 #[v] w fun e w' => e = .returned (.string ⟨(Lib.join ((ps.take 64).map wordOf ++ (if codeOf (cutTail (strip tv) ps 64) = 0 then [] else [numText (codeOf (cutTail (strip tv) ps 64))])) [58, 32]).toArray⟩) ∧ Below w.heap.size w w' := by
  obtain ⟨i0, hi, hz0, hz1, hz2⟩ : ∃ i, Tryd.prog.info? 9 = some i ∧ i.zero = some (.string ByteArray.empty) ∧ i.size = 1 ∧ i.bytes = 16 := by
    have h := Tryd.info9
    cases hi : Tryd.prog.info? 9 with
    | none => rw [hi] at h; cases h
    | some i => rw [hi] at h; simp at h; exact ⟨i, rfl, h.1, h.2.1, h.2.2⟩
  have HV : Hid (IsErr w tv ps v) := hv
  have HG : Hid (HasType w) := hg
  have HPW : Hid (HasPow w) := hpow
  have HIN : Hid (∀ p ∈ ps.take 64, in64 p.2) := fun p hp => hin p (List.mem_of_mem_take hp)
  have HCI : Hid (in64 (codeOf (cutTail (strip tv) ps 64))) := hcode
  have HT : Hid (Tail3 tv) := htv
  have hlen : (ps.take 64).length ≤ 64 := by simp; omega
  have HPL : Hid (Calls Tryd.prog 13 #[v] w fun e w' => ∃ pl, e = .returned pl ∧ w'.ownsRow w.heap.size 43 2 pl (ps.take 64).length (flat (ps.take 64)) ∧ Below w.heap.size w w') := places_gen htv ps v w hv hg
  have HCD : Hid (∀ wr, Below w.heap.size w wr → Calls Tryd.prog 8 #[v] wr fun e w' => e = .returned (.int .i64 (codeOf (cutTail (strip tv) ps 64))) ∧ Below wr.heap.size wr w') := fun wr hb =>
    code_gen ps htv v wr (hv.keep (Below.keeps hb)) (hg.keep hb hg.pos)
  clear hv hg htv hpow hin hcode
  generalize ps.take 64 = qs at *
  generalize codeOf (cutTail (strip tv) ps 64) = code at *
  go_enter Tryd.func7, Tryd.ntmps7
  go_wp2_with fail
  refine HPL.out.mono ?_
  rintro e w1 ⟨pl, rfl, hrow, hb1⟩
  obtain ⟨ao, cap, hpl⟩ : ∃ ao cap, pl = .slice ao qs.length cap := by
    rcases hrow.2 with ⟨h, h'⟩ | ⟨g, cap, cur, h, _⟩
    · exact ⟨none, 0, by rw [h']; exact h⟩
    · exact ⟨some ⟨g, 0, none⟩, cap, h⟩
  subst hpl
  have HI : Hid (TxInv w qs (.slice ao qs.length cap) 0 (.slice none 0 0) w1) := ⟨hrow, World.ownsRow_nil _ _ _ _, hb1⟩
  clear hrow hb1
  go_wp2_with fail
  go_loopw [3, 10] (fun parts idx wr => ∃ k : Nat, k ≤ qs.length ∧ idx = .int .i64 k ∧ TxInv w qs (.slice ao qs.length cap) k parts wr) (fun _ idx _ => qs.length - (intOf idx).toNat)
  case atStart => exact ⟨0, Nat.zero_le _, rfl, HI.out⟩
  case round =>
    obtain ⟨k, hk, rfl, hinv⟩ := hrel
    have HINV : Hid (TxInv w qs (.slice ao qs.length cap) k u3 wr) := hinv
    by_cases hlt : k < qs.length
    · obtain ⟨g, rfl⟩ : ∃ g, ao = some ⟨g, 0, none⟩ := by
        rcases hinv.row.2 with ⟨h, h'⟩ | ⟨g, cap', cur, h, _⟩
        · omega
        · cases h; exact ⟨g, rfl⟩
      have hc0 := (hinv.row.cellAt (2 * k) (by omega)).trans (flat_get qs k hlt).1
      have hc1 := (hinv.row.cellAt (2 * k + 1) (by omega)).trans (flat_get qs k hlt).2
      have HK : Hid (qs.take (k + 1) = qs.take k ++ [qs[k]]) := List.take_succ_eq_append_getElem hlt
      have HM : Hid (in64 (qs[k]).2) := HIN.out _ (List.getElem_mem hlt)
      generalize qs[k] = p at hc0 hc1 HK HM
      rw [Nat.mul_comm 2 k] at hc0 hc1
      clear hinv
      have HKW : Hid (∀ wx : World, Calls Tryd.prog 19 #[.int .i64 p.1] wx fun e w' => e = .returned (.string ⟨(kindBytes p.1).toArray⟩) ∧ w' = wx) := fun wx => kindWord_calls p.1 wx
      have HIT : Hid (∀ wx : World, Below wr.heap.size wr wx → Calls Tryd.prog 20 #[.int .i64 p.2] wx fun e w' => e = .returned (.string ⟨(Lib.itoa p.2).toArray⟩) ∧ Below wx.heap.size wx w') := fun wx hb =>
        itoa_calls p.2 HM.out.1 HM.out.2 wx ((HPW.out.keep HINV.out.below).keep hb)
      have HSUM : Hid ((ByteArray.mk (kindBytes p.1).toArray ++ ByteArray.mk #[32]) ++ ByteArray.mk (Lib.itoa p.2).toArray = ⟨(wordOf p).toArray⟩) := by
        show _ = _
        rw [show (#[32] : Array UInt8) = [32].toArray from rfl, ByteArray.mk_append_mk, ByteArray.mk_append_mk]; rfl
      have hKs : (ByteArray.mk (kindBytes p.1).toArray).size ≤ 5 := kind_len p.1
      have hIs : (ByteArray.mk (Lib.itoa p.2).toArray).size ≤ 21 := Lib.itoa_length_le p.2 HM.out.1 HM.out.2
      generalize ByteArray.mk (kindBytes p.1).toArray = K at HKW HSUM hKs
      generalize ByteArray.mk (Lib.itoa p.2).toArray = I at HIT HSUM hIs
      have s1 : ¬ 9223372036854775807 < K.size + 1 := by omega
      have s2 : ¬ 9223372036854775807 < K.size + 1 + I.size := by omega
      go_wp2_with fail
      go_region_law (first
        | (refine step_append_own rfl _ _ 49 rfl w.heap.size 9 i0 (.string ByteArray.empty) 1 16 Tryd.underlying49 hi hz0 hz1 hz2 rfl (by decide) u3 k ((qs.take k).map wordVal) rfl ?hown ⟨w2.heap.size, 0, none⟩ 1 1 [.string (K ++ ⟨#[32]⟩ ++ I)] rfl rfl ?hnews ?hone ?h63 ?hby ?hbase ?_; (case hown => exact HO2.out.alloc _); (case hnews => exact cell_one_new _ _ _); (case hone => intro x hx; simp at hx; subst hx; rfl); (case h63 => unfold maxLen; omega); (case hby => omega); (case hbase => simp; omega); intro v' w3 hown' hgrow3 hnil3)
        | (go_simp; go_at_call 19; refine (HKW.out _).mono ?_; rintro e w' ⟨rfl, rfl⟩)
        | (go_simp; go_at_call 20; refine (HIT.out _ ?_).mono ?_; exact ((Below.refl _ _).alloc (Nat.le_refl _) _).drew; rintro e w2 ⟨rfl, hb2⟩; have hbw : Below wr.heap.size wr w2 := ((Below.refl _ wr).alloc (Nat.le_refl _) _).drew.trans (hb2.mono (by simp)); have HO2 : Hid (w2.ownsRow w.heap.size 9 1 u3 k ((qs.take k).map wordVal)) := ownsRow_keep HINV.out.own (fun g cur h => hbw.block g (lt_of_get h)); have hs2 : w.heap.size ≤ w2.heap.size := Nat.le_trans HINV.out.below.size hbw.size))
      all_goals
        have HNX : Hid (TxInv w qs (.slice (some ⟨g, 0, none⟩) qs.length cap) (k + 1) v' w3) := HINV.out.next hbw HK.out (by rw [HSUM.out] at hown'; exact hown') hgrow3
        clear hown' hgrow3 hnil3
        go_wp2
        go_roundw
        case rel => exact ⟨k + 1, by omega, by go_num, HNX.out⟩
        case measure => simp [intOf]; omega
    · have hkq : k = qs.length := by omega
      subst hkq
      clear hlt hk hinv
      have HOWN : Hid (wr.ownsRow w.heap.size 9 1 u3 qs.length (qs.map wordVal)) := by
        have h := HINV.out.own
        rw [List.take_length] at h
        exact h
      have hsz : w.heap.size ≤ wr.heap.size := HINV.out.below.size
      have HWL : Hid (∀ l ∈ qs.map wordOf, l.length ≤ 40) := fun l hl => by
        obtain ⟨p, hp, rfl⟩ := List.mem_map.1 hl
        have := word_len p (HIN.out p hp)
        omega
      have eqm : qs.map wordVal = (qs.map wordOf).map fun l => Value.string ⟨l.toArray⟩ := by rw [List.map_map]; rfl
      have HEM : Hid (qs.map wordVal = (qs.map wordOf).map fun l => Value.string ⟨l.toArray⟩) := eqm
      clear eqm
      go_wp2_with fail
      refine (HCD.out wr HINV.out.below).mono ?_
      rintro e w2 ⟨rfl, hb2⟩
      have hs2 : wr.heap.size ≤ w2.heap.size := hb2.size
      have HO2 : Hid (w2.ownsRow w.heap.size 9 1 u3 qs.length (qs.map wordVal)) := ownsRow_keep HOWN.out (fun g cur h => hb2.block g (lt_of_get h))
      have hB2 : Below w.heap.size w w2 := HINV.out.below.trans (hb2.mono hsz)
      by_cases hc : code = 0
      · have hcb : (code != 0) = false := by simp [hc]
        have HC : Hid (code = 0) := hc
        clear hc
        go_wp2_with fail
        refine (join_calls w.heap.size (qs.map wordOf) u3 w2 (by rw [List.length_map, ← HEM.out]; exact HO2.out) HWL.out (by rw [List.length_map]; omega)).mono ?_
        rintro e w3 ⟨rfl, hb3⟩
        go_wp2
        go_ret
        refine ⟨?_, hB2.trans (hb3.mono (by omega))⟩
        simp
      · have hcb : (code != 0) = true := by simp [hc]
        have HC : Hid (¬ code = 0) := hc
        have HPW2 : Hid (HasPow w2) := HPW.out.keep hB2
        clear hc
        go_wp2_with fail
        refine (errno_any code HCI.out.1 HCI.out.2 w2 HPW2.out).mono ?_
        rintro e w3 ⟨rfl, hb3⟩
        have hs3 : w2.heap.size ≤ w3.heap.size := hb3.size
        have HO3 : Hid (w3.ownsRow w.heap.size 9 1 u3 qs.length (qs.map wordVal)) := ownsRow_keep HO2.out (fun g cur h => hb3.block g (lt_of_get h))
        have hB3 : Below w.heap.size w w3 := hB2.trans (hb3.mono (by omega))
        go_wp2_with (at_builtin; refine wpList_append_own _ rfl _ _ 49 rfl w.heap.size 9 i0 (.string ByteArray.empty) 1 16 Tryd.underlying49 hi hz0 hz1 hz2 rfl (by decide) u3 qs.length (qs.map wordVal) rfl ?hown ⟨w3.heap.size, 0, none⟩ 1 1 [.string ⟨(numText code).toArray⟩] rfl rfl ?hnews ?hone ?h63 ?hby ?hbase ?_; (case hown => exact HO3.out.alloc _); (case hnews => exact cell_one_new _ _ _); (case hone => intro x hx; simp at hx; subst hx; rfl); (case h63 => unfold maxLen; omega); (case hby => omega); (case hbase => simp; omega); intro v' w4 hown' hgrow4 hnil4)
        have HJ : Hid (Calls Tryd.prog 22 #[v', .string ⟨#[58, 32]⟩] w4 fun e w' => e = .returned (.string ⟨(Lib.join (qs.map wordOf ++ [numText code]) [58, 32]).toArray⟩) ∧ Below w4.heap.size w4 w') := by
          refine join_calls w.heap.size (qs.map wordOf ++ [numText code]) v' w4 ?_ ?_ ?_
          · rw [HEM.out] at hown'
            rw [List.length_append, List.length_map, List.map_append]
            exact hown'
          · intro l hl
            rcases List.mem_append.1 hl with h | h
            · exact HWL.out l h
            · have := numText_len code HCI.out
              simp at h
              subst h
              omega
          · simp; omega
        have hB4 : Below w.heap.size w w4 := (hB3.alloc (by omega) _).grown hgrow4 (by simp; omega) (fun j hj => (HO3.out.lt j hj).1)
        have hs4 := hB4.size
        clear hown' hgrow4 hnil4
        refine HJ.out.mono ?_
        rintro e w5 ⟨rfl, hb5⟩
        go_wp2
        go_ret
        refine ⟨?_, hB4.trans (hb5.mono hs4)⟩
        rfl
end Go.Proofs.YtkmbffdjgpjojabDoor
