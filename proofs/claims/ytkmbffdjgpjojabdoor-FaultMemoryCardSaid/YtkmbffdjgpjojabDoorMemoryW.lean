/- The law FaultMemory, walked. -/
import Derived.Test.YtkmbffdjgpjojabDoorAwake
import Derived.Test.YtkmbffdjgpjojabDoorChain
import Derived.Test.YtkmbffdjgpjojabDoorTold
import Derived.Test.YtkmbffdjgpjojabDoorAlike
namespace Go.Proofs.YtkmbffdjgpjojabDoor
open Go.RowKit Go.Extern

theorem places_of_row {w : World} {base : Nat} {pv : Value} {ps : List (Int × Int)} (h : w.ownsRow base 43 2 pv ps.length (flat ps)) : HasPlaces w pv ps := by
  rcases h.2 with ⟨e, h0⟩ | ⟨g, cap, cur, rfl, hg, hh, hcap, _, _, htk⟩
  · have : ps = [] := List.eq_nil_of_length_eq_zero h0
    subst this
    exact ⟨none, 0, e, fun j p hj => by simp at hj⟩
  · refine ⟨_, cap, rfl, fun j p hj => ⟨g, 0, rfl, lt_of_get hh, ?_⟩⟩
    obtain ⟨hlt, he⟩ := List.getElem?_eq_some_iff.1 hj
    have h0 := (h.cellAt (2 * j) (by omega)).trans (flat_get ps j hlt).1
    have h1 := (h.cellAt (2 * j + 1) (by omega)).trans (flat_get ps j hlt).2
    rw [he] at h0 h1
    rw [Nat.zero_add, Nat.mul_comm j 2]
    exact ⟨h0, h1⟩
theorem tail_or {n : Int} {tv : Value} (h : IsTail n false tv) : tv = .nilIface ∨ ∃ m, tv = .iface 27 (.int .i64 m) := by
  rcases h with ⟨_, h⟩ | ⟨_, h, _⟩ | ⟨_, _, h⟩
  · exact Or.inr ⟨n, h⟩
  · cases h
  · exact Or.inl h
theorem grown_keeps {w w' : World} {base : Nat} {v : Value} {n : Nat} {xs : List Value} (h : w.ownsRow base 43 2 v n xs) (hg : w.grownBy w' v.ownBlock) : Keeps w w' := fun b c hb => by
  rw [hg.block b (lt_of_get hb) (fun e => by
    rcases h.2 with ⟨rfl, _⟩ | ⟨g, cap, cur, rfl, _, hh, _⟩
    · cases e
    · cases e
      rw [hb] at hh
      simp at hh)]
  exact hb
theorem grown_refl (w : World) (r : Option Nat) : w.grownBy w r := ⟨rfl, rfl, rfl, Nat.le_refl _, fun _ _ _ => rfl⟩
theorem grown_trans {a b c : World} {r : Option Nat} (h : a.grownBy b r) (k : b.grownBy c r) : a.grownBy c r :=
  ⟨k.os.trans h.os, k.tape.trans h.tape, k.output.trans h.output, Nat.le_trans h.size k.size, fun i hi hne => (k.block i (Nat.lt_of_lt_of_le hi h.size) hne).trans (h.block i hi hne)⟩
theorem grown_below {w w' : World} {base : Nat} {r : Option Nat} (hg : w.grownBy w' r) (hb : base ≤ w.heap.size) (hr : ∀ k, r = some k → base ≤ k) : Below base w w' :=
  ⟨hg.os, hg.tape, hg.output, hg.size, fun k hk => hg.block k (by omega) (fun e => by have := hr k e.symm; omega)⟩

theorem field_told (c : Int) (mo : Option Addr) (l cap : Nat) (w : World) : (Instr.field 40 (.agg #[.int .i64 c, .slice mo l cap]) 1).run Tryd.prog w = .ok (.slice mo l cap) w := by kernel_rfl

set_option maxRecDepth 100000 in
set_option maxHeartbeats 4000000 in
theorem memory_calls (n : Int) (ao : Option Addr) (cap : Nat) (ps : List (Int × Int)) (w : World) (hl : HasPlaces w (.slice ao ps.length cap) ps) (hm : ps.length ≤ maxLen) (hcap : ps.length ≤ cap) (hg : HasType w) (hpow : HasPow w) :
    Calls Tryd.prog 4 #[.slice ao ps.length cap, .int .i64 n] w fun e w' => e = .returned (.bool true) ∧ Below w.heap.size w w' := by
  obtain ⟨i0, hi, hz0, hz1, hz2⟩ : ∃ i, Tryd.prog.info? 43 = some i ∧ i.zero = some (.agg #[.int .i64 0, .int .i64 0]) ∧ i.size = 2 ∧ i.bytes = 16 := by
    have h := Tryd.info34
    cases hi : Tryd.prog.info? 43 with
    | none => rw [hi] at h; cases h
    | some i => rw [hi] at h; simp at h; exact ⟨i, rfl, h.1, h.2.1, h.2.2⟩
  have HM : Hid (ps.length ≤ maxLen) := hm
  have HCP : Hid (ps.length ≤ cap) := hcap
  have HL : Hid (HasPlaces w (.slice ao ps.length cap) ps) := hl
  have HG : Hid (HasType w) := hg
  have hg0 : 0 < w.heap.size := hg.pos
  have HAW : Hid (Calls Tryd.prog 5 #[] w fun e w' => e = .returned (.bool true) ∧ Below w.heap.size w w') := awake_calls w hg hpow
  clear hl hg hpow hm hcap
  go_enter Tryd.func4, Tryd.ntmps4
  go_wp2_with fail
  refine HAW.out.mono ?_
  rintro e w1 ⟨rfl, hb1⟩
  have HB1 : Hid (Below w.heap.size w w1) := hb1
  have HL1 : Hid (HasPlaces w1 (.slice ao ps.length cap) ps) := HL.out.keep hb1
  clear hb1
  go_wp2_with fail
  refine (chain_calls _ ps n false w1 HL1.out HM.out).mono ?_
  rintro e w2 ⟨tv, v, rfl, hT, hE, hb2⟩
  have HB2 : Hid (Below w.heap.size w w2) := HB1.out.trans (hb2.mono HB1.out.size)
  have HL2 : Hid (HasPlaces w2 (.slice ao ps.length cap) ps) := HL1.out.keep hb2
  have HT : Hid (IsTail n false tv) := hT
  have HE2 : Hid (IsErr w2 tv ps v) := hE
  clear hT hE hb2
  go_wp2_with fail
  refine (told_calls ao cap ps n w2 HL2.out HM.out HCP.out).mono ?_
  rintro e w3 ⟨mv, rfl, hrow, hb3⟩
  obtain ⟨mo, mcap, hmv⟩ := row_slice hrow
  subst hmv
  have HB3 : Hid (Below w.heap.size w w3) := HB2.out.trans (hb3.mono HB2.out.size)
  have HE3 : Hid (IsErr w3 tv ps v) := HE2.out.keep (Below.keeps hb3)
  have HTL : Hid ((ps.take 64).length ≤ 64) := by show _ ≤ _; rw [List.length_take]; omega
  have HPC : Hid (∀ wx, IsErr wx tv ps v → HasType wx → Calls Tryd.prog 13 #[v] wx fun e w' => ∃ pl, e = .returned pl ∧ w'.ownsRow wx.heap.size 43 2 pl (ps.take 64).length (flat (ps.take 64)) ∧ Below wx.heap.size wx w') := fun wx h1 h2 => places_calls (tail_or HT.out) ps v wx h1 h2
  have HM3 : Hid (w3.ownsRow w2.heap.size 43 2 (.slice mo (ps.take 64).length mcap) (ps.take 64).length (flat (ps.take 64))) := hrow
  have hlen : (ps.take 64).length ≤ 64 := HTL.out
  clear hb3 hrow
  generalize ps.take 64 = qs at *
  have hfd := field_told (toldCode n ps) mo qs.length mcap w3
  go_wp2_with fail
  refine (HPC.out w3 HE3.out (HG.out.keep HB3.out hg0)).mono ?_
  rintro e w4 ⟨pl, rfl, hrow, hb4⟩
  obtain ⟨po, pcap, hpl⟩ := row_slice hrow
  subst hpl
  have HB4 : Hid (Below w.heap.size w w4) := HB3.out.trans (hb4.mono HB3.out.size)
  have HE4 : Hid (IsErr w4 tv ps v) := HE3.out.keep (Below.keeps hb4)
  have HM4 : Hid (w4.ownsRow w2.heap.size 43 2 (.slice mo qs.length mcap) qs.length (flat qs)) := ownsRow_keep HM3.out (fun g cur h => hb4.block g (lt_of_get h))
  have HP4 : Hid (w4.ownsRow w3.heap.size 43 2 (.slice po qs.length pcap) qs.length (flat qs)) := hrow
  have HMb : Hid (∀ k, (Value.slice mo qs.length mcap).ownBlock = some k → k < w3.heap.size) := fun k hk => (HM3.out.lt k hk).2
  have hs34 : w3.heap.size ≤ w4.heap.size := hb4.size
  clear hb4 hrow
  go_wp2_with fail
  refine (HPC.out w4 HE4.out (HG.out.keep HB4.out hg0)).mono ?_
  rintro e w5 ⟨ql, rfl, hrow, hb5⟩
  obtain ⟨qo, qcap, hql⟩ := row_slice hrow
  subst hql
  have HB5 : Hid (Below w.heap.size w w5) := HB4.out.trans (hb5.mono HB4.out.size)
  have HE5 : Hid (IsErr w5 tv ps v) := HE4.out.keep (Below.keeps hb5)
  have HM5 : Hid (w5.ownsRow w2.heap.size 43 2 (.slice mo qs.length mcap) qs.length (flat qs)) := ownsRow_keep HM4.out (fun g cur h => hb5.block g (lt_of_get h))
  have HP5 : Hid (w5.ownsRow w3.heap.size 43 2 (.slice po qs.length pcap) qs.length (flat qs)) := ownsRow_keep HP4.out (fun g cur h => hb5.block g (lt_of_get h))
  have HQ5 : Hid (w5.ownsRow w4.heap.size 43 2 (.slice qo qs.length qcap) qs.length (flat qs)) := hrow
  have HPb : Hid (∀ k, (Value.slice po qs.length pcap).ownBlock = some k → w3.heap.size ≤ k ∧ k < w4.heap.size) := fun k hk => HP4.out.lt k hk
  have hsz : w3.heap.size ≤ w5.heap.size := Nat.le_trans hs34 hb5.size
  clear hb5 hrow
  go_wp2_with fail
  go_loopw [26] (fun iv wr => ∃ k : Nat, k ≤ qs.length ∧ iv = .int .i64 k ∧ (∃ xs, wr.ownsRow w3.heap.size 43 2 (.slice po qs.length pcap) qs.length xs) ∧ w5.grownBy wr (Value.slice po qs.length pcap).ownBlock) (fun iv _ => qs.length - (intOf iv).toNat)
  case atStart => exact ⟨0, Nat.zero_le _, rfl, ⟨_, HP5.out⟩, grown_refl _ _⟩
  case round =>
    obtain ⟨k, hk, rfl, ⟨xs, hown⟩, hgr⟩ := hrel
    have HGR : Hid (w5.grownBy wr (Value.slice po qs.length pcap).ownBlock) := hgr
    clear hgr
    by_cases hlt : k < qs.length
    · obtain ⟨g, hpo⟩ : ∃ g, po = some ⟨g, 0, none⟩ := by
        rcases hown.2 with ⟨_, h0⟩ | ⟨g, cap, cur, e, _⟩
        · omega
        · cases e; exact ⟨g, rfl⟩
      subst hpo
      have hxl : xs.length = qs.length * 2 := hown.1
      obtain ⟨x0, hx0⟩ : ∃ x, xs[k * 2]? = some x := ⟨xs[k * 2], List.getElem?_eq_getElem (by omega)⟩
      obtain ⟨x1, hx1⟩ : ∃ x, xs[k * 2 + 1]? = some x := ⟨xs[k * 2 + 1], List.getElem?_eq_getElem (by omega)⟩
      have c0 := (hown.cellAt (k * 2) (by omega)).trans hx0
      have c1 := (hown.cellAt (k * 2 + 1) (by omega)).trans hx1
      have z0 := hown.frozenAt (k * 2)
      have z1 := hown.frozenAt (k * 2 + 1)
      have st1 := hown.stored (k * 2) (.int .i64 9)
      have st2 := st1.1.stored (k * 2 + 1) (.int .i64 (-9))
      have HN : Hid ((∃ xs, ((wr.setCell ⟨g, k * 2, none⟩ (.int .i64 9)).setCell ⟨g, k * 2 + 1, none⟩ (.int .i64 (-9))).ownsRow w3.heap.size 43 2 (.slice (some ⟨g, 0, none⟩) qs.length pcap) qs.length xs) ∧ w5.grownBy ((wr.setCell ⟨g, k * 2, none⟩ (.int .i64 9)).setCell ⟨g, k * 2 + 1, none⟩ (.int .i64 (-9))) (some g)) := ⟨⟨_, st2.1⟩, grown_trans HGR.out (grown_trans st1.2 st2.2)⟩
      clear st1 st2 hown hx0 hx1
      go_wp2
      go_roundw
      case rel => exact ⟨k + 1, by omega, by go_num, HN.out.1, HN.out.2⟩
      case measure => simp [intOf]; omega
    · have HO : Hid (wr.ownsRow w3.heap.size 43 2 (.slice po qs.length pcap) qs.length xs) := hown
      have hsr : w5.heap.size ≤ wr.heap.size := HGR.out.size
      clear hown
      go_wp2_with (at_builtin; refine wpList_append_own _ rfl _ _ 35 rfl w3.heap.size 43 i0 (.agg #[.int .i64 0, .int .i64 0]) 2 16 Tryd.underlying35 hi hz0 hz1 hz2 rfl (by decide) (.slice po qs.length pcap) qs.length xs rfl ?hown ⟨wr.heap.size, 0, none⟩ 2 2 [.int .i64 0, .int .i64 0, .int .i64 0, .int .i64 0] rfl rfl ?hnews ?hone ?h63 ?hby ?hbase ?_; (case hown => exact HO.out.alloc _); (case hnews => intro j x hx; rcases j with _ | _ | _ | _ | j <;> simp at hx <;> subst hx <;> simp [Addr.add]); (case hone => intro x hx; simp at hx; rcases hx with rfl | rfl <;> rfl); (case h63 => unfold maxLen; omega); (case hby => omega); (case hbase => simp; omega); intro v' w6 hown' hgrow6 hnil6; (obtain ⟨vo, vcap, hv⟩ := row_slice hown'); subst hv; have HG6 : Hid (w5.grownBy w6 (Value.slice po qs.length pcap).ownBlock) := grown_trans HGR.out (grown_trans (World.grownBy_alloc wr _ _) hgrow6); clear hown' hgrow6 hnil6)
      have HB6 : Hid (Below w.heap.size w w6) := HB5.out.trans (grown_below HG6.out HB5.out.size (fun k hk => Nat.le_trans HB3.out.size (HPb.out k hk).1))
      have HE6 : Hid (IsErr w6 tv ps v) := HE5.out.keep (grown_keeps HP5.out HG6.out)
      have HM6 : Hid (HasPlaces w6 (.slice mo qs.length mcap) qs) := places_of_row (HM5.out.kept HG6.out (by
        cases hm : (Value.slice mo qs.length mcap).ownBlock with
        | none => exact Or.inl rfl
        | some a => exact Or.inr (fun e => by have h1 := HMb.out a hm; have h2 := (HPb.out a e.symm).1; omega)))
      have HQ6 : Hid (HasPlaces w6 (.slice qo qs.length qcap) qs) := places_of_row (HQ5.out.kept HG6.out (by
        cases hm : (Value.slice qo qs.length qcap).ownBlock with
        | none => exact Or.inl rfl
        | some a => exact Or.inr (fun e => by have h1 := (HQ5.out.lt a hm).1; have h2 := (HPb.out a e.symm).2; omega)))
      go_wp2_with fail
      refine (alike_yes _ _ qs w6 HQ6.out HM6.out (by unfold maxLen; omega)).mono ?_
      rintro e w7 ⟨rfl, hb7⟩
      have HB7 : Hid (Below w.heap.size w w7) := HB6.out.trans (hb7.mono HB6.out.size)
      have HE7 : Hid (IsErr w7 tv ps v) := HE6.out.keep (Below.keeps hb7)
      have HM7 : Hid (HasPlaces w7 (.slice mo qs.length mcap) qs) := HM6.out.keep hb7
      clear hb7
      go_wp2_with fail
      refine (HPC.out w7 HE7.out (HG.out.keep HB7.out hg0)).mono ?_
      rintro e w8 ⟨rl, rfl, hrow, hb8⟩
      have HB8 : Hid (Below w.heap.size w w8) := HB7.out.trans (hb8.mono HB7.out.size)
      have HM8 : Hid (HasPlaces w8 (.slice mo qs.length mcap) qs) := HM7.out.keep hb8
      have HR8 : Hid (HasPlaces w8 rl qs) := places_of_row hrow
      clear hb8 hrow
      go_wp2_with fail
      refine (alike_yes _ _ qs w8 HR8.out HM8.out (by unfold maxLen; omega)).mono ?_
      rintro e w9 ⟨rfl, hb9⟩
      have HB9 : Hid (Below w.heap.size w w9) := HB8.out.trans (hb9.mono HB8.out.size)
      clear hb9
      go_wp2
      go_ret
      exact ⟨rfl, HB9.out⟩
end Go.Proofs.YtkmbffdjgpjojabDoor
