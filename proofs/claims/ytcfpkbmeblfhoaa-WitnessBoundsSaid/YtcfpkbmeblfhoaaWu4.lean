/- viaductref04.SameRow at rows that are one; Find on an overlay that New made. -/
import Derived.Test.YtcfpkbmeblfhoaaWu3
import Derived.BigQuiet
namespace Go.Proofs.Ytcfpkbmeblfhoaa.Wt
open Go Go.RowKit Go.Extern

attribute [local go_sem] Oper.semAt_some

/-- a row of numbers, or none at all. -/
def URow (w : World) (ao : Option Addr) (D : List Int) : Prop := (ao = none ∧ D = []) ∨ ∃ b, ao = some ⟨b, 0, none⟩ ∧ U64s w b D
theorem URow.at {w : World} {ao : Option Addr} {D : List Int} (h : URow w ao D) {k : Nat} {x : Int} (hk : D[k]? = some x) : ∃ b, ao = some ⟨b, 0, none⟩ ∧ b < w.heap.size ∧ w.cell? ⟨b, k, none⟩ = some (.int .u64 x) := by
  rcases h with ⟨_, rfl⟩ | ⟨b, h1, h2⟩
  · simp at hk
  · exact ⟨b, h1, (h2.at hk).2.1, (h2.at hk).1⟩
theorem URow.keep {w w' : World} {ao : Option Addr} {D : List Int} (h : URow w ao D) (hb : Below w.heap.size w w') : URow w' ao D := by
  rcases h with h | ⟨b, h1, h2⟩
  · exact Or.inl h
  · exact Or.inr ⟨b, h1, (hb.block _ (lt_of_get h2)).trans h2⟩

set_option maxRecDepth 100000 in
set_option maxHeartbeats 1000000 in
theorem sameRow_yes (ao bo : Option Addr) (ac bc : Nat) (D : List Int) (w : World) (ha : URow w ao D) (hb : URow w bo D) (hm : D.length ≤ maxLen) :
    Calls Try.prog 10 #[.slice ao D.length ac, .slice bo D.length bc] w fun e w' => e = .returned (.bool true) ∧ Below w.heap.size w w' := by
  unfold maxLen at hm
  have HA : Hid (URow w ao D) := ha
  have HB : Hid (URow w bo D) := hb
  clear ha hb
  go_enter Try.func10, Try.ntmps10
  go_wp2_with fail
  go_loopw [13] (fun iv wr => ∃ k : Nat, k ≤ D.length ∧ iv = .int .i64 k ∧ Below w.heap.size w wr) (fun iv _ => D.length - (intOf iv).toNat)
  case atStart => exact ⟨0, Nat.zero_le _, rfl, Below.refl _ _⟩
  case round =>
    obtain ⟨k, hk, rfl, hbw⟩ := hrel
    by_cases hlt : k < D.length
    · obtain ⟨p, hp⟩ : ∃ p, D[k]? = some p := ⟨D[k], List.getElem?_eq_getElem hlt⟩
      obtain ⟨b, hao, hl1, q0⟩ := HA.out.at hp
      obtain ⟨b', hbo, hl2, r0⟩ := HB.out.at hp
      subst hao
      subst hbo
      have a0 := (hbw.cell (p := ⟨b, k, none⟩) hl1).trans q0
      have b0 := (hbw.cell (p := ⟨b', k, none⟩) hl2).trans r0
      have i1 : (k : Int) < (D.length : Int) := by omega
      have i2 : (0 : Int) ≤ (k : Int) := by omega
      have HBW : Hid (Below w.heap.size w wr) := hbw
      clear q0 r0 hp hbw
      go_wp2_with fail
      go_quiet (fail)
      have HB4 : Hid (Below w.heap.size w (wr.drewN nq)) := below_drewN HBW.out nq
      go_wp2
      go_roundw
      case rel => exact ⟨k + 1, by omega, by go_num, HB4.out⟩
      case measure => simp [intOf]; omega
    · go_wp2
      go_ret
      exact ⟨rfl, hbw⟩
/-- Find on an overlay. -/
theorem find_ov {PX : Nat → Option Obj} {w : World} {B0 pb n : Nat} {bs : List Bool} {R : Bool → Nat → Rw} {nodes arcs : Int} (h : IsOv PX B0 w pb n bs R nodes arcs) (hw : WtB n R) (hn : n ≤ 512) (u skip : Int) (go : Option Addr) (gc : Nat) (gs : List Int) (hg : HasInts w (.slice go gs.length gc) gs) (hl : gs.length ≤ 1000) (mo hops se : Int) :
    Calls Try.prog 9 #[.pointer (some ⟨pb, 0, none⟩), .int .i64 u, .int .i64 skip, .slice go gs.length gc, .int .u64 mo, .int .i64 hops, .int .i64 se] w fun e w' => FindA n (rowsZ (rowW n bs R) skip n) (aliveB n bs) u hops se mo gs w e w' :=
  wfind_calls (ovF_of h hw) skip (rowsZ_fine (rowsW_of h.inv hw) hn) (fun v hv => rowsZ_row hv) (by omega) u go gc gs hg hl mo hops se
/-- New's rows, without their places. -/
def newR (zs : List (Int × Int × Int)) : Bool → Nat → Rw := fun s u => (.slice none 0 0, sideL s zs u, 0)
theorem rowW_new {n : Nat} {bs : List Bool} {R : Bool → Nat → Rw} {zs : List (Int × Int × Int)} (hR : ∀ s u, u < n → (R s u).2 = (sideL s zs u, 0)) : rowW n bs R = rowW n bs (newR zs) := by
  funext v
  unfold rowW
  split
  · rename_i h
    obtain ⟨u, e, hu, _⟩ := aliveB_iff.1 h
    obtain rfl : v = u := by omega
    rw [hR false v hu]
    rfl
  · rfl
theorem side_mem {s : Bool} {zs : List (Int × Int × Int)} {u : Nat} {a : H3} (h : a ∈ sideL s zs u) : ∃ b ∈ zs, a.2.1 = b.2.2 := by
  unfold sideL at h
  split at h
  · obtain ⟨b, hb, rfl⟩ := List.mem_map.1 h
    exact ⟨b, (List.mem_filter.1 hb).1, rfl⟩
  · obtain ⟨b, hb, rfl⟩ := List.mem_map.1 h
    exact ⟨b, (List.mem_filter.1 hb).1, rfl⟩
theorem wtB_new {n : Nat} {xs : List (Int × Int × Int)} {R : Bool → Nat → Rw} (hg : graphErr (n : Int) xs = (0, [])) (hR : ∀ s u, u < n → (R s u).2 = (sideL s (normA xs) u, 0)) : WtB n R := fun s v hv a ha => by
  rw [hR s v hv] at ha
  obtain ⟨b, hb, e⟩ := side_mem ha
  have h3 := ((good_iff _ _).1 (good_norm hg)).2 b hb
  rw [e]
  unfold arcBad at h3
  split at h3
  · cases h3
  · split at h3
    · cases h3
    · omega
end Go.Proofs.Ytcfpkbmeblfhoaa.Wt
