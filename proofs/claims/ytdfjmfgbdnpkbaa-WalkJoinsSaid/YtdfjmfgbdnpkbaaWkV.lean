/- awake of the law on walks. -/
import Derived.Test.YtdfjmfgbdnpkbaaWkA
namespace Go.Proofs.Ytdfjmfgbdnpkbaa
open Go.RowKit Go.Extern

attribute [local go_sem] Oper.semAt_some

theorem own_some {w : World} {B n : Nat} {v : Value} {xs : List Value} (h : w.ownsRow B 3 1 v n xs) (h0 : 0 < n) : ∃ g cap, v = .slice (some ⟨g, 0, none⟩) n cap ∧ n ≤ cap := by
  rcases h.2 with ⟨_, e⟩ | ⟨g, cap, cur, e, _, _, hle, _⟩
  · omega
  · exact ⟨g, cap, e, hle⟩
theorem of4_calls (fo uo wo : Option Addr) (fc tc wc : Nat) (w : World) (h : CsrIn w 4 Z4 fo uo wo fc tc wc) :
    Calls Try.prog 11 #[.agg #[.slice fo 5 fc, .slice uo 4 tc, .slice wo 4 wc]] w fun e w' => ∃ fo fc tb tc wo wc, e = .returned (.agg #[.slice fo 5 fc, .slice (some ⟨tb, 0, none⟩) 4 tc, .slice wo 4 wc]) ∧ CsrIn w' 4 Z4 fo (some ⟨tb, 0, none⟩) wo fc tc wc ∧ 4 ≤ tc ∧ Below w.heap.size w w' := by
  refine (of9_calls fo uo wo fc tc wc (firsts 4 Z4) (tos Z4) (weights Z4) w h.f h.t h.w (by decide) (by decide) (by decide)).mono ?_
  rintro e w' ⟨fo', fc', uo', tc', wo', wc', he, ⟨o1, o2, o3⟩, hb⟩
  obtain ⟨g, cap, e2, hc⟩ := own_some o2 (by decide)
  injection e2 with e3 e4 e5
  subst e3
  subst e5
  exact ⟨fo', fc', g, _, wo', wc', he, ⟨ints_of_iown o1, ints_of_iown o2, ints_of_iown o3⟩, hc, hb⟩
theorem ints_new {W : World} {b cap : Nat} {cur : Array Value} {T : TypeId} {l : List Int} (h : W.heap[b]? = some (.cells cur T)) (hc : cur = (iv l).toArray) : HasInts W (.slice (some ⟨b, 0, none⟩) l.length cap) l := by
  refine ⟨_, _, rfl, fun j a hj => ⟨b, 0, rfl, lt_of_get h, ?_⟩⟩
  subst hc
  simp [World.cell?, h, iv, hj]

set_option maxRecDepth 100000 in
set_option maxHeartbeats 4000000 in
theorem awake9_calls (w : World) : Calls Try.prog 5 #[] w fun e w' => e = .returned (.bool true) ∧ Below w.heap.size w w' := by
  go_enter Try.func5, Try.ntmps5
  go_wp2_with fail
  refine (four_calls w).mono ?_
  rintro e w1 ⟨fo, fc, uo, tc, wo, wc, rfl, hI, hb⟩
  have H1 : Hid (CsrIn w1 4 Z4 fo uo wo fc tc wc ∧ Below w.heap.size w w1) := ⟨hI, hb⟩
  clear hI hb
  go_wp2_with fail
  refine (of4_calls fo uo wo fc tc wc w1 H1.out.1).mono ?_
  rintro e w2 ⟨fo2, fc2, tb, tc2, wo2, wc2, rfl, hI, htc, hb⟩
  have H2 : Hid (CsrIn w2 4 Z4 fo2 (some ⟨tb, 0, none⟩) wo2 fc2 tc2 wc2 ∧ 4 ≤ tc2 ∧ Below w.heap.size w w2) := ⟨hI, htc, btr H1.out.2 hb⟩
  clear hI hb htc H1
  go_wp2_with fail
  have hal : Below w2.heap.size w2 (w2.alloc (.cells #[.int .i64 0, .int .i64 2, .int .i64 1, .int .i64 2] 3)) := (Below.refl _ _).alloc (Nat.le_refl _) _
  have hne : (w2.alloc (.cells #[.int .i64 0, .int .i64 2, .int .i64 1, .int .i64 2] 3)).heap[w2.heap.size]? = some (.cells #[.int .i64 0, .int .i64 2, .int .i64 1, .int .i64 2] 3) := heap_new _ _
  have HL : Hid (Calls Try.prog 10 #[.agg #[.slice fo2 5 fc2, .slice (some ⟨tb, 0, none⟩) 4 tc2, .slice wo2 4 wc2], .slice (some ⟨w2.heap.size, 0, none⟩) 4 4] (w2.alloc (.cells #[.int .i64 0, .int .i64 2, .int .i64 1, .int .i64 2] 3)) fun e w' => e = .returned (.tuple #[.int .u64 10, .nilIface]) ∧ Below w.heap.size w w') := by
    refine (length_walk 4 Z4 fo2 wo2 tb 0 fc2 tc2 wc2 _ fine4 (H2.out.1.keep hal) H2.out.2.1 w2.heap.size 0 4 0 [2, 1, 2] [9, 0, 1] (ints_new (l := [0, 2, 1, 2]) hne rfl) (by decide) (by decide) (by decide) (by decide) ⟨rfl, fun i r hr => ?_⟩).mono fun e w' ⟨he, hb⟩ => ⟨he, btr (btr H2.out.2.2 hal) hb⟩
    rcases i with _ | _ | _ | i
    · cases hr; exact ⟨0, 2, rfl, rfl, by decide⟩
    · cases hr; exact ⟨2, 1, rfl, rfl, by decide⟩
    · cases hr; exact ⟨1, 2, rfl, rfl, by decide⟩
    · simp at hr
  clear hal hne
  refine HL.out.mono ?_
  rintro e w3 ⟨rfl, hb⟩
  have H3 : Hid (Below w.heap.size w w3) := hb
  clear hb HL H2
  go_wp2_with fail
  have hne : (w3.alloc (.cells #[.int .i64 0, .int .i64 2, .int .i64 1, .int .i64 2, .int .i64 5] 3)).heap[w3.heap.size]? = some (.cells #[.int .i64 0, .int .i64 2, .int .i64 1, .int .i64 2, .int .i64 5] 3) := heap_new _ _
  have hal : Below w3.heap.size w3 (w3.alloc (.cells #[.int .i64 0, .int .i64 2, .int .i64 1, .int .i64 2, .int .i64 5] 3)) := (Below.refl _ _).alloc (Nat.le_refl _) _
  have HSI : Hid (Calls Try.prog 7 #[.slice (some ⟨w3.heap.size, 0, none⟩) 5 5] (w3.alloc (.cells #[.int .i64 0, .int .i64 2, .int .i64 1, .int .i64 2, .int .i64 5] 3)) fun e w' => ∃ so sc, e = .returned (.slice so 3 sc) ∧ HasInts w' (.slice so 3 sc) [0, 2, 5] ∧ Below w.heap.size w w') := by
    refine (simple_calls (some ⟨w3.heap.size, 0, none⟩) 5 [0, 2, 1, 2, 5] _ (ints_new hne rfl) (by decide) (by decide)).mono ?_
    rintro e w' ⟨so, sc, he, ho, hb⟩
    exact ⟨so, sc, he, ints_of_iown ho, btr (btr H3.out hal) hb⟩
  clear hne hal
  refine HSI.out.mono ?_
  rintro e w4 ⟨so, sc, rfl, hI, hb⟩
  have H4 : Hid (HasInts w4 (.slice so 3 sc) [0, 2, 5] ∧ Below w.heap.size w w4) := ⟨hI, hb⟩
  clear hb hI HSI H3
  go_wp2_with fail
  have hne : (w4.alloc (.cells #[.int .i64 0, .int .i64 2, .int .i64 5] 3)).heap[w4.heap.size]? = some (.cells #[.int .i64 0, .int .i64 2, .int .i64 5] 3) := heap_new _ _
  have hal : Below w4.heap.size w4 (w4.alloc (.cells #[.int .i64 0, .int .i64 2, .int .i64 5] 3)) := (Below.refl _ _).alloc (Nat.le_refl _) _
  have HSS : Hid (Calls Try.prog 9 #[.slice so 3 sc, .slice (some ⟨w4.heap.size, 0, none⟩) 3 3] (w4.alloc (.cells #[.int .i64 0, .int .i64 2, .int .i64 5] 3)) fun e w' => e = .returned (.bool true) ∧ Below w.heap.size w w') :=
    (sameInts_yes _ _ [0, 2, 5] _ (H4.out.1.keep hal) (ints_new hne rfl) (by decide)).mono fun e w' ⟨he, hb⟩ => ⟨he, btr (btr H4.out.2 hal) hb⟩
  clear hne hal
  refine HSS.out.mono ?_
  rintro e w5 ⟨rfl, hb⟩
  have H5 : Hid (Below w.heap.size w w5) := hb
  clear hb HSS H4
  go_wp2
  go_ret
  exact ⟨rfl, H5.out⟩
end Go.Proofs.Ytdfjmfgbdnpkbaa
