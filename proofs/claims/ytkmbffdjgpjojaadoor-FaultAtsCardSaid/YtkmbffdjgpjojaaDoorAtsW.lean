/- The law FaultAts, walked. -/
import Derived.Test.YtkmbffdjgpjojaaDoorAwake
import Derived.Test.YtkmbffdjgpjojaaDoorChain
import Derived.Test.YtkmbffdjgpjojaaDoorOther
import Derived.Deep.RegionWith
namespace Go.Proofs.YtkmbffdjgpjojaaDoor
open Go.RowKit Go.Extern

theorem tail3_of {n : Int} {o : Bool} {tv : Value} (h : IsTail n o tv) : Tail3 tv := by
  rcases h with ⟨_, h⟩ | ⟨_, _, a, h⟩ | ⟨_, _, h⟩
  · exact Or.inr (Or.inl ⟨n, h⟩)
  · exact Or.inr (Or.inr ⟨_, h⟩)
  · exact Or.inl h

set_option maxRecDepth 100000 in
set_option maxHeartbeats 4000000 in
theorem ats_calls (k a n : Int) (other : Bool) (lv : Value) (ps : List (Int × Int)) (w : World) (hl : HasPlaces w lv ps) (hm : ps.length ≤ maxLen) (hg : HasType w) (hpow : HasPow w) :
    Calls Tryd.prog 3 #[.int .i64 k, .int .i64 a, lv, .int .i64 n, .bool other] w fun e w' => e = .returned (.bool true) ∧ Below w.heap.size w w' := by
  have HM : Hid (ps.length ≤ maxLen) := hm
  unfold maxLen at hm
  obtain ⟨ao, cap, hlv⟩ : ∃ ao cap, lv = .slice ao ps.length cap := by
    obtain ⟨ao, cap, e, _⟩ := hl
    exact ⟨ao, cap, e⟩
  subst hlv
  have HL : Hid (HasPlaces w (.slice ao ps.length cap) ps) := hl
  have HG : Hid (HasType w) := hg
  have hg0 : 0 < w.heap.size := hg.pos
  have HAW : Hid (Calls Tryd.prog 9 #[] w fun e w' => e = .returned (.bool true) ∧ Below w.heap.size w w') := awake_calls w hg hpow
  clear hl hg hpow
  go_enter Tryd.func3, Tryd.ntmps3
  go_wp2_with fail
  refine HAW.out.mono ?_
  rintro e w1 ⟨rfl, hb1⟩
  have HB1 : Hid (Below w.heap.size w w1) := hb1
  have HL1 : Hid (HasPlaces w1 (.slice ao ps.length cap) ps) := HL.out.keep hb1
  clear hb1
  go_wp2_with fail
  refine (chain_calls _ ps n other w1 HL1.out HM.out).mono ?_
  rintro e w2 ⟨tv, v, rfl, hT, hE, hb2⟩
  have HB2 : Hid (Below w.heap.size w w2) := HB1.out.trans (hb2.mono HB1.out.size)
  have HL2 : Hid (HasPlaces w2 (.slice ao ps.length cap) ps) := HL1.out.keep hb2
  have HT : Hid (IsTail n other tv) := hT
  have HE : Hid (IsErr w2 tv ps v) := hE
  rcases shape3 (tail3_of hT) hE with ⟨h, _, _⟩ | ⟨T, x, h⟩
  · subst h
    clear hT hE hb2
    go_wp2_with (go_at_call 11; refine (at_nil _ _ _).mono ?_; rintro e w' ⟨rfl, rfl⟩)
    go_ret
    exact ⟨rfl, HB2.out⟩
  subst h
  clear hT hE hb2
  go_wp2_with fail
  refine (at_some k a T x w2).mono ?_
  rintro e w3 ⟨rfl, hw3⟩
  have HN3 : Hid (w3.heap[w2.heap.size]? = some (.cells #[.int .i64 k, .int .i64 a, .iface T x] 36)) := by subst hw3; exact heap_new _ _
  have hB23 : Below w2.heap.size w2 w3 := by subst hw3; exact (Below.refl _ _).alloc (Nat.le_refl _) _
  have HO3 : Hid (IsErr w3 tv ps (.iface T x)) := HE.out.keep (Below.keeps hB23)
  have HL3 : Hid (HasPlaces w3 (.slice ao ps.length cap) ps) := HL2.out.keep hB23
  have HB3 : Hid (Below w.heap.size w w3) := HB2.out.trans (hB23.mono HB2.out.size)
  have HB23 : Hid (Below w2.heap.size w2 w3) := hB23
  clear hw3 hB23
  -- the variable f
  have hbF : Below w3.heap.size w3 (w3.alloc (.cells #[.pointer none] 30)) := (Below.refl _ _).alloc (Nat.le_refl _) _
  have HBF : Hid (Below w.heap.size w (w3.alloc (.cells #[.pointer none] 30))) := HB3.out.trans (hbF.mono HB3.out.size)
  have HGF : Hid (HasType (w3.alloc (.cells #[.pointer none] 30))) := HG.out.keep HBF.out hg0
  have HNF : Hid ((w3.alloc (.cells #[.pointer none] 30)).heap[w3.heap.size]? = some (.cells #[.pointer none] 30)) := heap_new _ _
  have HN4 : Hid ((w3.alloc (.cells #[.pointer none] 30)).heap[w2.heap.size]? = some (.cells #[.int .i64 k, .int .i64 a, .iface T x] 36)) := (hbF.block _ (lt_of_get HN3.out)).trans HN3.out
  have HO4 : Hid (IsErr (w3.alloc (.cells #[.pointer none] 30)) tv ps (.iface T x)) := HO3.out.keep (Below.keeps hbF)
  have HL4 : Hid (HasPlaces (w3.alloc (.cells #[.pointer none] 30)) (.slice ao ps.length cap) ps) := HL3.out.keep hbF
  have hs23 : w2.heap.size < w3.heap.size := lt_of_get HN3.out
  clear hbF
  go_wp2_with fail
  refine (as_fault ⟨w2.heap.size, 0, none⟩ w3.heap.size _ _ HGF.out HNF.out).mono ?_
  rintro e w5 ⟨rfl, hF5, ht5⟩
  have hk5 : Keeps _ w5 := ht5.keeps HNF.out (by decide)
  have HN5 : Hid (w5.heap[w2.heap.size]? = some (.cells #[.int .i64 k, .int .i64 a, .iface T x] 36)) := hk5 _ _ HN4.out
  have HO5 : Hid (IsErr w5 tv ps (.iface T x)) := HO4.out.keep hk5
  have HB5 : Hid (Below w.heap.size w w5) := HBF.out.trans (ht5.below HB3.out.size (by simp))
  have HF5 : Hid (w5.heap[w3.heap.size]? = some (.cells #[.pointer (some ⟨w2.heap.size, 0, none⟩)] 30)) := hF5
  have hs5 : w3.heap.size < w5.heap.size := lt_of_get hF5
  have cF := (cell_one hF5).1
  obtain ⟨c0, c1, c2⟩ := cell_of_fault HN5.out
  have HL5 : Hid (HasPlaces w5 (.slice ao ps.length cap) ps) := by
    obtain ⟨ao', cap', e, hc⟩ := HL2.out
    cases e
    refine ⟨ao, cap, rfl, fun j p hj => ?_⟩
    obtain ⟨b, off, ea, hl, q0, q1⟩ := hc j p hj
    have hbk : w5.heap[b]? = w2.heap[b]? := by
      rw [ht5.block b (by simp; omega) (by omega), Below.heap_alloc _ _ _ (by omega), HB23.out.block b hl]
    exact ⟨b, off, ea, by omega, (World.cell?_of_block (w := w2) (a := ⟨b, _, none⟩) hbk).trans q0, (World.cell?_of_block (w := w2) (a := ⟨b, _, none⟩) hbk).trans q1⟩
  clear hF5 ht5 hk5
  have hs25 : w2.heap.size < w5.heap.size := by omega
  have HG5 : Hid (HasType w5) := HG.out.keep HB5.out hg0
  have HE5 : Hid (IsErr w5 tv ((k, a) :: ps) (.iface 30 (.pointer (some ⟨w2.heap.size, 0, none⟩)))) := ⟨_, _, rfl, HN5.out, HO5.out⟩
  -- the variable g
  have hbG : Below w5.heap.size w5 (w5.alloc (.cells #[.pointer none] 30)) := (Below.refl _ _).alloc (Nat.le_refl _) _
  have HBG : Hid (Below w.heap.size w (w5.alloc (.cells #[.pointer none] 30))) := HB5.out.trans (hbG.mono HB5.out.size)
  have HGG : Hid (HasType (w5.alloc (.cells #[.pointer none] 30))) := HG.out.keep HBG.out hg0
  have HNG : Hid ((w5.alloc (.cells #[.pointer none] 30)).heap[w5.heap.size]? = some (.cells #[.pointer none] 30)) := heap_new _ _
  clear hbG
  cases ps with
  | nil =>
    have hx : Value.iface T x = tv := HO5.out
    rcases HT.out with ⟨hn0, htv⟩ | ⟨hn0, ho, y, htv⟩ | ⟨_, _, htv⟩
    · rw [htv] at hx
      cases hx
      have hnb : (n != 0) = true := by simp [hn0]
      have hnb' : (n == 0) = false := by simp [hn0]
      have HIS : Hid (∀ wx, IsErr wx (.iface 24 (.int .i64 n)) [] (.iface 24 (.int .i64 n))) := fun wx => rfl
      have HE5' : Hid (IsErr w5 (.iface 24 (.int .i64 n)) [(k, a)] (.iface 30 (.pointer (some ⟨w2.heap.size, 0, none⟩)))) := by have h := HE5.out; rw [htv] at h; exact h
      clear htv hn0
      go_wp2_with fail
      refine (errorsIs_num _ n n _ w5 HE5'.out).mono ?_
      rintro e w6 ⟨rfl, hw6⟩
      subst hw6
      have hnn : (n == n) = true := by simp
      go_wp2_with fail
      refine (as_fault_no _ _ _ HGG.out).mono ?_
      rintro e w7 ⟨rfl, hb7⟩
      have d1 : w7.cell? ⟨w3.heap.size, 0, none⟩ = some (.pointer (some ⟨w2.heap.size, 0, none⟩)) := by
        rw [hb7.cell (p := ⟨w3.heap.size, 0, none⟩) (by simp; omega), World.cell?_alloc_lt _ _ _ hs5]; exact cF
      have d2 : w7.cell? ⟨w2.heap.size, 2, none⟩ = some (.iface 24 (.int .i64 n)) := by
        rw [hb7.cell (p := ⟨w2.heap.size, 2, none⟩) (by simp; omega), World.cell?_alloc_lt _ _ _ hs25]; exact c2
      have HB7 : Hid (Below w.heap.size w w7) := HBG.out.trans (hb7.mono HBG.out.size)
      clear hb7
      go_wp2_with fail
      refine (errorsIs_num [] n n _ w7 (HIS.out w7)).mono ?_
      rintro e w8 ⟨rfl, hw8⟩
      subst hw8
      go_wp2
      go_ret
      refine ⟨?_, HB7.out⟩
      first | rfl | simp
    · rw [htv] at hx
      cases hx
      subst hn0
      clear htv
      go_wp2_with fail
      refine (as_fault_other _ _ _ HGG.out).mono ?_
      rintro e w7 ⟨rfl, hb7⟩
      have HB7 : Hid (Below w.heap.size w w7) := HBG.out.trans (hb7.mono HBG.out.size)
      clear hb7
      go_wp2
      go_ret
      refine ⟨?_, HB7.out⟩
      first | rfl | simp
    · rw [htv] at hx; cases hx
  | cons p ps =>
    obtain ⟨b, u, hu, hbb, hr⟩ := HO5.out
    cases hu
    obtain ⟨bl, off, hao, hbl, q0, q1⟩ : ∃ bl off, ao = some ⟨bl, off, none⟩ ∧ bl < w5.heap.size ∧ w5.cell? ⟨bl, off, none⟩ = some (.int .i64 p.1) ∧ w5.cell? ⟨bl, off + 1, none⟩ = some (.int .i64 p.2) := by
      obtain ⟨ao', cap', e, hc⟩ := HL5.out
      cases e
      obtain ⟨bl, off, ea, hl, h0, h1⟩ := hc 0 p rfl
      exact ⟨bl, off, ea, hl, by simpa using h0, by simpa using h1⟩
    subst hao
    have hlb : b < w5.heap.size := lt_of_get hbb
    have HBB : Hid (w5.heap[b]? = some (.cells #[.int .i64 p.1, .int .i64 p.2, u] 36)) := hbb
    have HRS : Hid (w5.cell? ⟨bl, off, none⟩ = some (.int .i64 p.1) ∧ w5.cell? ⟨bl, off + 1, none⟩ = some (.int .i64 p.2)) := ⟨q0, q1⟩
    clear hbb hr q0 q1
    have HAS : Hid (Calls Tryd.prog 12 #[.iface 30 (.pointer (some ⟨b, 0, none⟩)), .iface 32 (.pointer (some ⟨w5.heap.size, 0, none⟩))] (w5.alloc (.cells #[.pointer none] 30)).drew fun e w7 => e = .returned (.bool true) ∧ w7.cell? ⟨w5.heap.size, 0, none⟩ = some (.pointer (some ⟨b, 0, none⟩)) ∧ w7.cell? ⟨b, 0, none⟩ = some (.int .i64 p.1) ∧ w7.cell? ⟨b, 1, none⟩ = some (.int .i64 p.2) ∧ w7.cell? ⟨bl, off, none⟩ = some (.int .i64 p.1) ∧ w7.cell? ⟨bl, off + 1, none⟩ = some (.int .i64 p.2) ∧ Below w.heap.size w w7) := by
      refine (as_fault ⟨b, 0, none⟩ w5.heap.size (.pointer none) (w5.alloc (.cells #[.pointer none] 30)).drew HGG.out HNG.out).mono ?_
      rintro e w7 ⟨rfl, hG7, ht7⟩
      have hK : ∀ j, j < w5.heap.size → w7.heap[j]? = w5.heap[j]? := fun j hj => (ht7.block j (by show j < (w5.alloc _).heap.size; simp; omega) (by omega)).trans (Below.heap_alloc _ _ _ hj)
      have hf := cell_of_fault ((hK b hlb).trans HBB.out)
      exact ⟨rfl, (cell_one hG7).1, hf.1, hf.2.1, (World.cell?_of_block (w := w5) (a := ⟨bl, off, none⟩) (hK bl hbl)).trans HRS.out.1, (World.cell?_of_block (w := w5) (a := ⟨bl, off + 1, none⟩) (hK bl hbl)).trans HRS.out.2,
        HBG.out.trans ((Below.refl _ _).drew.trans (ht7.below HB5.out.size (by show w5.heap.size < (w5.alloc _).heap.size; simp)))⟩
    rcases (show n = 0 ∨ (n ≠ 0 ∧ ps.length + 1 < 100) ∨ (n ≠ 0 ∧ ¬ ps.length + 1 < 100) by omega) with hn0 | ⟨hn0, h100⟩ | ⟨hn0, h100⟩
    · subst hn0
      go_wp2_with fail
      go_region_with (go_at_call 12; refine HAS.out.mono ?_; rintro e w7 ⟨rfl, cG, e0, e1, f0, f1, hB7⟩; have HB7 : Hid (Below w.heap.size w w7) := hB7; clear hB7)
      all_goals
        go_wp2
        go_ret
        refine ⟨?_, HB7.out⟩
        first | rfl | simp
    · have hnb : (n != 0) = true := by simp [hn0]
      have h100' : (ps.length : Int) + 1 < 100 := by omega
      have hnn : (n == n) = true := by simp
      have HE5' : Hid (IsErr w5 (.iface 24 (.int .i64 n)) ((k, a) :: p :: ps) (.iface 30 (.pointer (some ⟨w2.heap.size, 0, none⟩)))) := by
        have h := HE5.out
        rcases HT.out with ⟨_, htv⟩ | ⟨h0, _⟩ | ⟨h0, _⟩
        · rw [htv] at h; exact h
        · exact absurd h0 hn0
        · exact absurd h0 hn0
      clear hn0
      go_wp2_with fail
      refine (errorsIs_num _ n n _ w5 HE5'.out).mono ?_
      rintro e w6 ⟨rfl, hw6⟩
      subst hw6
      go_wp2_with fail
      go_region_with (go_at_call 12; refine HAS.out.mono ?_; rintro e w7 ⟨rfl, cG, e0, e1, f0, f1, hB7⟩; have HB7 : Hid (Below w.heap.size w w7) := hB7; clear hB7)
      all_goals
        go_wp2
        go_ret
        refine ⟨?_, HB7.out⟩
        first | rfl | simp
    · have hnb : (n != 0) = true := by simp [hn0]
      have h100' : ¬ (ps.length : Int) + 1 < 100 := by omega
      clear hn0
      go_wp2_with fail
      go_region_with (go_at_call 12; refine HAS.out.mono ?_; rintro e w7 ⟨rfl, cG, e0, e1, f0, f1, hB7⟩; have HB7 : Hid (Below w.heap.size w w7) := hB7; clear hB7)
      all_goals
        go_wp2
        go_ret
        refine ⟨?_, HB7.out⟩
        first | rfl | simp
end Go.Proofs.YtkmbffdjgpjojaaDoor
