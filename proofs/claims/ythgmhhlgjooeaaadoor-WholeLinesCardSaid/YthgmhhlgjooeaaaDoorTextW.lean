/- fault.Text: the walk. -/
import Derived.Test.YthgmhhlgjooeaaaDoorJoin
namespace Go.Proofs.YthgmhhlgjooeaaaDoor.F1
open Go.RowKit Go.Extern

theorem Tryd.info9 : (Tryd.prog.info? 9).map (fun i => (i.zero, i.size, i.bytes)) = some (some (.string ByteArray.empty), 1, 16) := by kernel_rfl
theorem Tryd.gpow : Tryd.prog.globalNamed "internal/strconv.uint64pow10" = some 1 := by kernel_rfl

/-- the table of powers lies as the text lays it. -/
def HasPow (w : World) : Prop := Lib.TabIs Tryd.prog w "internal/strconv.uint64pow10" .u64 Lib.pow10Tab
theorem HasPow.keep {w w' : World} (h : HasPow w) (hb : Below w.heap.size w w') : HasPow w' := Go.Joins.tab_stays Tryd.gpow h hb (Nat.le_refl _)

/-- append onto a row of the call's own, as one step of a region that draws. -/
theorem step_append_own {P : Program} {ops : Array Oper} {o : Oper} {a : Act} {w : World} {K : Act → World → Prop} {Q : Exit → Act → World → Prop} {E : Prop}
    (hg : o.guard = none) (s x : Operand) (t : TypeId) (ho : o.op = .call { callee := .builtin .append, args := #[s, x], argTypes := #[t, t] })
    (base : Nat) (e : TypeId) (i : TypeInfo) (z : Value) (size bytes : Nat) (ht : P.underlying t = some (.slice e)) (hi : P.info? e = some i) (hz : i.zero = some z)
    (hsize : i.size = size) (hby : i.bytes = bytes) (hzs : z.cells.size = size) (hsz : 0 < size)
    (v : Value) (n : Nat) (xs : List Value) (hs : a.eval s = v) (hown : w.ownsRow base e size v n xs)
    (ad : Addr) (m c : Nat) (news : List Value) (hx : a.eval x = .slice (some ad) m c) (hl : news.length = m * size) (hnews : ∀ j u, news[j]? = some u → w.cell? (ad.add j) = some u) (h1 : ∀ u ∈ news, u.oneCell' = true)
    (h63 : n + m ≤ maxLen) (hbytes : (n + m) * bytes ≤ 140737488355328) (hbase : base ≤ w.heap.size)
    (h : ∀ v' w', w'.ownsRow base e size v' (n + m) (xs ++ news) → w.grownBy w' v.ownBlock → (v' = .slice none 0 0 ↔ v = .slice none 0 0 ∧ m = 0) → K (a.put o.dst v') w') :
    if Region.wanted o (yielded ops a.tmps) = true then Oper.wp P o a w K Q else E := by
  have hw : Region.wanted o (yielded ops a.tmps) = true := by simp [Region.wanted, hg]
  rw [if_pos hw]
  exact wp_append_own w s x t ho base e i z size bytes ht hi hz hsize hby hzs hsz v n xs hs hown ad m c news hx hl hnews h1 h63 hbytes hbase h

/-- what holds at each round of Text's loop. -/
structure TxInv (w : World) (qs : List (Int × Int)) (pl : Value) (k : Nat) (parts : Value) (wr : World) : Prop where
  row : wr.ownsRow w.heap.size 37 2 pl qs.length (flat qs)
  own : wr.ownsRow w.heap.size 9 1 parts k ((qs.take k).map wordVal)
  below : Below w.heap.size w wr

/-- a row's end: the word is laid behind the others. -/
theorem TxInv.next {w wr w2 w3 : World} {qs : List (Int × Int)} {pl parts v' : Value} {k : Nat} {p : Int × Int} {o : Obj} (h : TxInv w qs pl k parts wr) (hb : Below wr.heap.size wr w2) (hk : qs.take (k + 1) = qs.take k ++ [p])
    (ho : w3.ownsRow w.heap.size 9 1 v' (k + 1) ((qs.take k).map wordVal ++ [wordVal p])) (hg : (w2.alloc o).grownBy w3 parts.ownBlock) : TxInv w qs pl (k + 1) v' w3 := by
  have hs := hb.size
  have hrow : ∀ j, parts.ownBlock = some j → ∃ cur, wr.heap[j]? = some (.cells cur 9) := fun j hj => by
    rcases h.own.2 with ⟨rfl, _⟩ | ⟨g, cap, cur, rfl, hg, hh, _⟩
    · cases hj
    · cases hj; exact ⟨cur, hh⟩
  refine ⟨ownsRow_keep h.row (fun g cur hg' => ?_), ?_, ⟨?_, ?_, ?_, ?_, fun j hj => ?_⟩⟩
  · have hlt := lt_of_get hg'
    rw [hg.block g (by simp; omega) (fun e => by
      obtain ⟨c, hc⟩ := hrow g e.symm
      rw [hg'] at hc
      simp at hc), Below.heap_alloc _ _ _ (by omega), hb.block g hlt]
  · rw [hk, List.map_append]; exact ho
  · exact hg.os.trans (hb.os.trans h.below.os)
  · exact hg.tape.trans (hb.tape.trans h.below.tape)
  · exact hg.output.trans (hb.output.trans h.below.output)
  · have := hg.size; have := h.below.size; simp at *; omega
  · have hsz := h.below.size
    rw [hg.block j (by simp; omega) (fun e => by have := h.own.lt j e.symm; omega), Below.heap_alloc _ _ _ (by omega), hb.block j (by omega)]
    exact h.below.block j hj

set_option maxRecDepth 100000 in
set_option maxHeartbeats 1000000 in
theorem text_calls {tv : Value} (htv : tv = .nilIface ∨ ∃ n, tv = .iface 27 (.int .i64 n)) (ps : List (Int × Int)) (v : Value) (w : World) (hv : IsErr w tv ps v) (hg : HasType w) (hpow : HasPow w) (hin : ∀ p ∈ ps, in64 p.2) (hcode : in64 (codeOf (cutTail tv ps 64))) :
    Calls Tryd.prog 4 #[v] w fun e w' => e = .returned (.string ⟨(Lib.join ((ps.take 64).map wordOf ++ (if codeOf (cutTail tv ps 64) = 0 then [] else [numText (codeOf (cutTail tv ps 64))])) [58, 32]).toArray⟩) ∧ Below w.heap.size w w' := by
  obtain ⟨i0, hi, hz0, hz1, hz2⟩ : ∃ i, Tryd.prog.info? 9 = some i ∧ i.zero = some (.string ByteArray.empty) ∧ i.size = 1 ∧ i.bytes = 16 := by
    have h := Tryd.info9
    cases hi : Tryd.prog.info? 9 with
    | none => rw [hi] at h; cases h
    | some i => rw [hi] at h; simp at h; exact ⟨i, rfl, h.1, h.2.1, h.2.2⟩
  have HV : Hid (IsErr w tv ps v) := hv
  have HG : Hid (HasType w) := hg
  have HPW : Hid (HasPow w) := hpow
  have HIN : Hid (∀ p ∈ ps.take 64, in64 p.2) := fun p hp => hin p (List.mem_of_mem_take hp)
  have HCI : Hid (in64 (codeOf (cutTail tv ps 64))) := hcode
  have HT : Hid (tv = .nilIface ∨ ∃ n, tv = .iface 27 (.int .i64 n)) := htv
  have hlen : (ps.take 64).length ≤ 64 := by simp; omega
  have HPL : Hid (Calls Tryd.prog 8 #[v] w fun e w' => ∃ pl, e = .returned pl ∧ w'.ownsRow w.heap.size 37 2 pl (ps.take 64).length (flat (ps.take 64)) ∧ Below w.heap.size w w') := places_calls htv ps v w hv hg
  have HCD : Hid (∀ wr, Below w.heap.size w wr → Calls Tryd.prog 13 #[v] wr fun e w' => e = .returned (.int .i64 (codeOf (cutTail tv ps 64))) ∧ Below wr.heap.size wr w') := fun wr hb =>
    code_any ps htv v wr (hv.keep (Below.keeps hb)) (hg.keep hb hg.pos)
  clear hv hg htv hpow hin hcode
  generalize ps.take 64 = qs at *
  generalize codeOf (cutTail tv ps 64) = code at *
  go_enter Tryd.func4, Tryd.ntmps4
  go_wp2_with fail
  refine HPL.out.mono ?_
  rintro e w1 ⟨pl, rfl, hrow, hb1⟩
  obtain ⟨ao, cap, hpl⟩ : ∃ ao cap, pl = .slice ao qs.length cap := by
    rcases hrow.2 with ⟨h, h'⟩ | ⟨g, cap, cur, h, _⟩
    · exact ⟨none, 0, by rw [h']; exact h⟩
    · exact ⟨some ⟨g, 0, none⟩, cap, h⟩
  subst hpl
  have HI : Hid (TxInv w qs (.slice ao qs.length cap) 0 (.slice none 0 0) w1) := ⟨hrow, World.ownsRow_nil _ _ _ _, hb1⟩
  clear hrow hb1
  go_wp2_with fail
  go_loopw [3, 10] (fun parts idx wr => ∃ k : Nat, k ≤ qs.length ∧ idx = .int .i64 k ∧ TxInv w qs (.slice ao qs.length cap) k parts wr) (fun _ idx _ => qs.length - (intOf idx).toNat)
  case atStart => exact ⟨0, Nat.zero_le _, rfl, HI.out⟩
  case round =>
    obtain ⟨k, hk, rfl, hinv⟩ := hrel
    have HINV : Hid (TxInv w qs (.slice ao qs.length cap) k u3 wr) := hinv
    by_cases hlt : k < qs.length
    · obtain ⟨g, rfl⟩ : ∃ g, ao = some ⟨g, 0, none⟩ := by
        rcases hinv.row.2 with ⟨h, h'⟩ | ⟨g, cap', cur, h, _⟩
        · omega
        · cases h; exact ⟨g, rfl⟩
      have hc0 := (hinv.row.cellAt (2 * k) (by omega)).trans (flat_get qs k hlt).1
      have hc1 := (hinv.row.cellAt (2 * k + 1) (by omega)).trans (flat_get qs k hlt).2
      have HK : Hid (qs.take (k + 1) = qs.take k ++ [qs[k]]) := List.take_succ_eq_append_getElem hlt
      have HM : Hid (in64 (qs[k]).2) := HIN.out _ (List.getElem_mem hlt)
      generalize qs[k] = p at hc0 hc1 HK HM
      rw [Nat.mul_comm 2 k] at hc0 hc1
      clear hinv
      have HKW : Hid (∀ wx : World, Calls Tryd.prog 11 #[.int .i64 p.1] wx fun e w' => e = .returned (.string ⟨(kindBytes p.1).toArray⟩) ∧ w' = wx) := fun wx => kindWord_calls p.1 wx
      have HIT : Hid (∀ wx : World, Below wr.heap.size wr wx → Calls Tryd.prog 12 #[.int .i64 p.2] wx fun e w' => e = .returned (.string ⟨(Lib.itoa p.2).toArray⟩) ∧ Below wx.heap.size wx w') := fun wx hb =>
        itoa_calls p.2 HM.out.1 HM.out.2 wx ((HPW.out.keep HINV.out.below).keep hb)
      have HSUM : Hid ((ByteArray.mk (kindBytes p.1).toArray ++ ByteArray.mk #[32]) ++ ByteArray.mk (Lib.itoa p.2).toArray = ⟨(wordOf p).toArray⟩) := by
        show _ = _
        rw [show (#[32] : Array UInt8) = [32].toArray from rfl, ByteArray.mk_append_mk, ByteArray.mk_append_mk]; rfl
      have hKs : (ByteArray.mk (kindBytes p.1).toArray).size ≤ 5 := kind_len p.1
      have hIs : (ByteArray.mk (Lib.itoa p.2).toArray).size ≤ 21 := Lib.itoa_length_le p.2 HM.out.1 HM.out.2
      generalize ByteArray.mk (kindBytes p.1).toArray = K at HKW HSUM hKs
      generalize ByteArray.mk (Lib.itoa p.2).toArray = I at HIT HSUM hIs
      have s1 : ¬ 9223372036854775807 < K.size + 1 := by omega
      have s2 : ¬ 9223372036854775807 < K.size + 1 + I.size := by omega
      go_wp2_with fail
      go_region_law (first
        | (refine step_append_own rfl _ _ 41 rfl w.heap.size 9 i0 (.string ByteArray.empty) 1 16 Tryd.underlying41 hi hz0 hz1 hz2 rfl (by decide) u3 k ((qs.take k).map wordVal) rfl ?hown ⟨w2.heap.size, 0, none⟩ 1 1 [.string (K ++ ⟨#[32]⟩ ++ I)] rfl rfl ?hnews ?hone ?h63 ?hby ?hbase ?_; (case hown => exact HO2.out.alloc _); (case hnews => exact cell_one_new _ _ _); (case hone => intro x hx; simp at hx; subst hx; rfl); (case h63 => unfold maxLen; omega); (case hby => omega); (case hbase => simp; omega); intro v' w3 hown' hgrow3 hnil3)
        | (go_simp; go_at_call 11; refine (HKW.out _).mono ?_; rintro e w' ⟨rfl, rfl⟩)
        | (go_simp; go_at_call 12; refine (HIT.out _ ?_).mono ?_; exact ((Below.refl _ _).alloc (Nat.le_refl _) _).drew; rintro e w2 ⟨rfl, hb2⟩; have hbw : Below wr.heap.size wr w2 := ((Below.refl _ wr).alloc (Nat.le_refl _) _).drew.trans (hb2.mono (by simp)); have HO2 : Hid (w2.ownsRow w.heap.size 9 1 u3 k ((qs.take k).map wordVal)) := ownsRow_keep HINV.out.own (fun g cur h => hbw.block g (lt_of_get h)); have hs2 : w.heap.size ≤ w2.heap.size := Nat.le_trans HINV.out.below.size hbw.size))
      all_goals
        have HNX : Hid (TxInv w qs (.slice (some ⟨g, 0, none⟩) qs.length cap) (k + 1) v' w3) := HINV.out.next hbw HK.out (by rw [HSUM.out] at hown'; exact hown') hgrow3
        clear hown' hgrow3 hnil3
        go_wp2
        go_roundw
        case rel => exact ⟨k + 1, by omega, by go_num, HNX.out⟩
        case measure => simp [intOf]; omega
    · have hkq : k = qs.length := by omega
      subst hkq
      clear hlt hk hinv
      have HOWN : Hid (wr.ownsRow w.heap.size 9 1 u3 qs.length (qs.map wordVal)) := by
        have h := HINV.out.own
        rw [List.take_length] at h
        exact h
      have hsz : w.heap.size ≤ wr.heap.size := HINV.out.below.size
      have HWL : Hid (∀ l ∈ qs.map wordOf, l.length ≤ 40) := fun l hl => by
        obtain ⟨p, hp, rfl⟩ := List.mem_map.1 hl
        have := word_len p (HIN.out p hp)
        omega
      have eqm : qs.map wordVal = (qs.map wordOf).map fun l => Value.string ⟨l.toArray⟩ := by rw [List.map_map]; rfl
      have HEM : Hid (qs.map wordVal = (qs.map wordOf).map fun l => Value.string ⟨l.toArray⟩) := eqm
      clear eqm
      go_wp2_with fail
      refine (HCD.out wr HINV.out.below).mono ?_
      rintro e w2 ⟨rfl, hb2⟩
      have hs2 : wr.heap.size ≤ w2.heap.size := hb2.size
      have HO2 : Hid (w2.ownsRow w.heap.size 9 1 u3 qs.length (qs.map wordVal)) := ownsRow_keep HOWN.out (fun g cur h => hb2.block g (lt_of_get h))
      have hB2 : Below w.heap.size w w2 := HINV.out.below.trans (hb2.mono hsz)
      by_cases hc : code = 0
      · have hcb : (code != 0) = false := by simp [hc]
        have HC : Hid (code = 0) := hc
        clear hc
        go_wp2_with fail
        refine (join_calls w.heap.size (qs.map wordOf) u3 w2 (by rw [List.length_map, ← HEM.out]; exact HO2.out) HWL.out (by rw [List.length_map]; omega)).mono ?_
        rintro e w3 ⟨rfl, hb3⟩
        go_wp2
        go_ret
        refine ⟨?_, hB2.trans (hb3.mono (by omega))⟩
        simp
      · have hcb : (code != 0) = true := by simp [hc]
        have HC : Hid (¬ code = 0) := hc
        have HPW2 : Hid (HasPow w2) := HPW.out.keep hB2
        clear hc
        go_wp2_with fail
        refine (errno_any code HCI.out.1 HCI.out.2 w2 HPW2.out).mono ?_
        rintro e w3 ⟨rfl, hb3⟩
        have hs3 : w2.heap.size ≤ w3.heap.size := hb3.size
        have HO3 : Hid (w3.ownsRow w.heap.size 9 1 u3 qs.length (qs.map wordVal)) := ownsRow_keep HO2.out (fun g cur h => hb3.block g (lt_of_get h))
        have hB3 : Below w.heap.size w w3 := hB2.trans (hb3.mono (by omega))
        go_wp2_with (at_builtin; refine wpList_append_own _ rfl _ _ 41 rfl w.heap.size 9 i0 (.string ByteArray.empty) 1 16 Tryd.underlying41 hi hz0 hz1 hz2 rfl (by decide) u3 qs.length (qs.map wordVal) rfl ?hown ⟨w3.heap.size, 0, none⟩ 1 1 [.string ⟨(numText code).toArray⟩] rfl rfl ?hnews ?hone ?h63 ?hby ?hbase ?_; (case hown => exact HO3.out.alloc _); (case hnews => exact cell_one_new _ _ _); (case hone => intro x hx; simp at hx; subst hx; rfl); (case h63 => unfold maxLen; omega); (case hby => omega); (case hbase => simp; omega); intro v' w4 hown' hgrow4 hnil4)
        have HJ : Hid (Calls Tryd.prog 15 #[v', .string ⟨#[58, 32]⟩] w4 fun e w' => e = .returned (.string ⟨(Lib.join (qs.map wordOf ++ [numText code]) [58, 32]).toArray⟩) ∧ Below w4.heap.size w4 w') := by
          refine join_calls w.heap.size (qs.map wordOf ++ [numText code]) v' w4 ?_ ?_ ?_
          · rw [HEM.out] at hown'
            rw [List.length_append, List.length_map, List.map_append]
            exact hown'
          · intro l hl
            rcases List.mem_append.1 hl with h | h
            · exact HWL.out l h
            · have := numText_len code HCI.out
              simp at h
              subst h
              omega
          · simp; omega
        have hB4 : Below w.heap.size w w4 := (hB3.alloc (by omega) _).grown hgrow4 (by simp; omega) (fun j hj => (HO3.out.lt j hj).1)
        have hs4 := hB4.size
        clear hown' hgrow4 hnil4
        refine HJ.out.mono ?_
        rintro e w5 ⟨rfl, hb5⟩
        go_wp2
        go_ret
        refine ⟨?_, hB4.trans (hb5.mono hs4)⟩
        rfl
end Go.Proofs.YthgmhhlgjooeaaaDoor.F1
