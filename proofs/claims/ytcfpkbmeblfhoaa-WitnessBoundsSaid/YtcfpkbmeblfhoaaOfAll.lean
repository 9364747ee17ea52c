/- normal.Of, whatever it is handed: the document's normal list, or the error. -/
import Derived.Test.YtcfpkbmeblfhoaaCompAll
import Derived.Test.YtcfpkbmeblfhoaaNorm
import Derived.Test.YtcfpkbmeblfhoaaRev
namespace Go.Proofs.Ytcfpkbmeblfhoaa
open Go.RowKit Go.Extern Go.Sort Go.Shelf

attribute [local go_sem] Oper.semAt_some

theorem compacts_all (xs : List (Int × Int × Int)) (hm : xs.length ≤ 262144) : Compacts xs (normA xs) := fun b wx hH hb => by
  have hk := kept_le xs
  have h := compact_calls (sortedA xs) b 0 (kept xs).length xs.length wx (sortedA_size xs) hk (by omega) hH hb
  rw [comp_sorted] at h
  exact h
theorem normA_len (xs : List (Int × Int × Int)) : (normA xs).length ≤ xs.length := by
  rw [← comp_sorted]
  exact Nat.le_trans (comp_len _ _) (kept_le xs)

set_option maxRecDepth 100000 in
set_option maxHeartbeats 4000000 in
theorem of_all (N : Int) (ao : Option Addr) (cap : Nat) (xs : List (Int × Int × Int)) (w : World) (hl : HasArcs w (.slice ao xs.length cap) xs) (hm : xs.length ≤ maxLen) :
    Calls Try.prog 13 #[.agg #[.int .i64 N, .slice ao xs.length cap]] w fun e w' => ∃ M lo n lc v ys, e = .returned (.tuple #[.agg #[.int .i64 M, .slice lo n lc], v]) ∧ HasArcs w' (.slice lo n lc) ys ∧ ys.length ≤ xs.length ∧ IsTold w' (graphErr N xs) v ∧ ((graphErr N xs = (0, []) ∧ M = N ∧ ys = normA xs) ∨ (graphErr N xs ≠ (0, []) ∧ M = 0 ∧ ys = [])) ∧ Below w.heap.size w w' := by
  by_cases hgood : graphErr N xs = (0, [])
  · have hlen : xs.length ≤ 262144 := by
      have h := hgood
      unfold graphErr at h
      split at h
      · simp at h
      · omega
    refine (of_calls N ao cap xs (normA xs) w hl hgood hlen (compacts_all xs hlen)).mono ?_
    rintro e w' ⟨b, rfl, hA, hB⟩
    exact ⟨N, some ⟨b, 0, none⟩, (normA xs).length, xs.length, .nilIface, normA xs, rfl, hA, normA_len xs, Or.inl ⟨hgood, rfl⟩, Or.inl ⟨hgood, rfl, rfl⟩, hB⟩
  obtain ⟨W0, hW0⟩ : ∃ W0, (w.alloc (.cells #[.int .i64 N, .slice ao xs.length cap] 35)).alloc (.cells #[.int .i64 0, .slice none 0 0] 35) = W0 := ⟨_, rfl⟩
  have hB0 : Below w.heap.size w W0 := by rw [← hW0]; exact ((Below.refl _ w).alloc (Nat.le_refl _) _).alloc (by simp) _
  have k1 : W0.heap[w.heap.size + 1]? = some (.cells #[.int .i64 0, .slice none 0 0] 35) := by
    have h := heap_new (w.alloc (.cells #[.int .i64 N, .slice ao xs.length cap] 35)) (.cells #[.int .i64 0, .slice none 0 0] 35)
    rw [hW0] at h
    simpa using h
  have hs0 : W0.heap.size = w.heap.size + 2 := by rw [← hW0]; simp
  have HW0 : Hid ((w.alloc (.cells #[.int .i64 N, .slice ao xs.length cap] 35)).alloc (.cells #[.int .i64 0, .slice none 0 0] 35) = W0) := hW0
  have HB0 : Hid (Below w.heap.size w W0) := hB0
  have HCK : Hid (Calls Try.prog 19 #[.agg #[.int .i64 N, .slice ao xs.length cap]] W0 fun e w' => ∃ v, e = .returned v ∧ IsTold w' (graphErr N xs) v ∧ Below W0.heap.size W0 w') := check_calls N ao cap xs W0 (hl.keep hB0) hm
  have HK0 : Hid (W0.heap[w.heap.size + 1]? = some (.cells #[.int .i64 0, .slice none 0 0] 35)) := k1
  have HGN : Hid (graphErr N xs ≠ (0, [])) := hgood
  clear hl k1 hB0 hW0 hgood
  go_enter Try.func13, Try.ntmps13
  go_wp2_with fail
  rw [HW0.out]
  refine HCK.out.mono ?_
  rintro e w1 ⟨v, rfl, ht1, hb1⟩
  have HT1 : Hid (IsTold w1 (graphErr N xs) v) := ht1
  have HB1 : Hid (Below w.heap.size w w1) := HB0.out.trans (hb1.mono HB0.out.size)
  have HK1 : Hid (w1.heap[w.heap.size + 1]? = some (.cells #[.int .i64 0, .slice none 0 0] 35)) := (hb1.block _ (by omega)).trans HK0.out
  have hs1 : w.heap.size + 1 < w1.heap.size := lt_of_get HK1.out
  obtain ⟨b0, b1, y0, y1⟩ : w1.cell? ⟨w.heap.size + 1, 0, none⟩ = some (.int .i64 0) ∧ w1.cell? ⟨w.heap.size + 1, 1, none⟩ = some (.slice none 0 0) ∧ w1.frozen? ⟨w.heap.size + 1, 0, none⟩ = false ∧ w1.frozen? ⟨w.heap.size + 1, 1, none⟩ = false := by simp [World.cell?, World.frozen?, HK1.out]
  clear hb1
  obtain ⟨T, x, hsh⟩ : ∃ T x, v = .iface T x := by
    rcases ht1 with ⟨hg, _⟩ | ⟨hg, hv⟩
    · exact absurd hg HGN.out
    · cases hps : (graphErr N xs).2 with
      | nil => rw [hps] at hv; exact ⟨_, _, hv⟩
      | cons p r => rw [hps] at hv; obtain ⟨b, u, e, _⟩ := hv; exact ⟨_, _, e⟩
  subst hsh
  clear ht1
  go_wp2
  refine bodyPost_ret (v := .tuple #[.agg #[.int .i64 0, .slice none 0 0], .iface T x]) (by simp [results, Try.results13, go_sem, b0, b1]) rfl ⟨0, none, 0, 0, .iface T x, [], rfl, ⟨_, _, rfl, fun j a hj => by simp at hj⟩, Nat.zero_le _, ?_, Or.inr ⟨HGN.out, rfl, rfl⟩, ?_⟩
  · exact HT1.out.keep (keeps_two HK1.out (by decide) _ _)
  · exact (HB1.out.setCell (p := ⟨w.heap.size + 1, 0, none⟩) (by simp) _).setCell (p := ⟨w.heap.size + 1, 1, none⟩) (by simp) _
end Go.Proofs.Ytcfpkbmeblfhoaa
