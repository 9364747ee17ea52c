/- OverlaySides: what stands on both sides. -/
import Derived.Test.YtpaamcapopnhoaaOwL
namespace Go.Proofs.Ytpaamcapopnhoaa
open Go.RowKit Go.Extern Go.Sort

section
variable {n : Nat} {bs : List Bool} {R : Bool → Nat → Rw}
/-- what a node's list is, alive or not. -/
def rowL (bs : List Bool) (R : Bool → Nat → Rw) (s : Bool) (v : Nat) : List H3 := livH bs (R s v).2.1
theorem rowL_rise (h : OvInv n bs R) (s : Bool) {v : Nat} (hv : v < n) : RiseH (rowL bs R s v) := livH_rise (h.ok.rise s v hv)
theorem rowL_dead (h : OvInv n bs R) (s : Bool) {v : Nat} (hv : v < n) (hd : liv bs v = false) : rowL bs R s v = [] := by
  unfold rowL
  rw [h.dead s v hv hd]
  rfl
/-- an end of a node's list, and the other side. -/
theorem rowL_at (h : OvInv n bs R) (s : Bool) {v : Nat} (hv : v < n) {a : H3} (ha : a ∈ rowL bs R s v) : ∃ m : Nat, a.1 = (m : Int) ∧ m < n ∧ liv bs m = true ∧ liv bs v = true ∧ m ≠ v ∧ ((v : Int), a.2.1, a.2.2) ∈ rowL bs R (!s) m := by
  obtain ⟨h1, h2⟩ := livH_mem.1 ha
  obtain ⟨h3, h4⟩ := h.ok.node s v hv a h1
  have lv := h.liveEnd s hv h1
  have hm : a.1 = (a.1.toNat : Int) := by omega
  have hself := h.self s v hv a h1
  refine ⟨a.1.toNat, hm, by omega, h2, lv, fun e => hself (by omega), livH_mem.2 ⟨?_, ?_⟩⟩
  · refine h.sym s v a.1.toNat a.2.1 a.2.2 hv (by omega) lv h2 ?_
    rw [← hm]
    exact h1
  · simpa [liv] using lv
/-- what Weight tells of an arc that is there. -/
theorem rowL_weight (h : OvInv n bs R) {v : Nat} (hv : v < n) {a : H3} (ha : a ∈ rowL bs R false v) : weightM n bs R (v : Int) a.1 = some a.2.1 := by
  obtain ⟨m, e, hm, lm, lv, _, _⟩ := rowL_at h false hv ha
  have h1 := (livH_mem.1 ha).1
  obtain ⟨h2, h3⟩ := low_mem (h.ok.rise false v hv) h1
  unfold weightM
  rw [aliveB_iff.2 ⟨v, rfl, hv, lv⟩, aliveB_iff.2 ⟨m, e, hm, lm⟩, Int.toNat_natCast, h2, h3]
  rfl
theorem rowL_back (h : OvInv n bs R) {v : Nat} (hv : v < n) {a : H3} (ha : a ∈ rowL bs R true v) : ∃ k, weightM n bs R a.1 (v : Int) = some k := by
  obtain ⟨m, e, hm, lm, lv, _, h1⟩ := rowL_at h true hv ha
  refine ⟨a.2.1, ?_⟩
  rw [e]
  exact rowL_weight h hm (a := ((v : Int), a.2.1, a.2.2)) h1
theorem alive_liv {v : Nat} (hv : v < n) : aliveB n bs (v : Int) = liv bs v := by
  cases hl : liv bs v with
  | true => exact aliveB_iff.2 ⟨v, rfl, hv, hl⟩
  | false =>
    cases h : aliveB n bs (v : Int) with
    | false => rfl
    | true =>
      obtain ⟨u, e, _, h1⟩ := aliveB_iff.1 h
      obtain rfl : v = u := by omega
      rw [hl] at h1
      cases h1
end
section
variable {PX : Nat → Option Obj} {w : World} {B0 pb n : Nat} {bs : List Bool} {R : Bool → Nat → Rw} {nodes arcs : Int}
theorem IsOv.outL (h : IsOv PX B0 w pb n bs R nodes arcs) {v : Nat} (hv : v < n) : Calls Try.prog 11 #[.pointer (some ⟨pb, 0, none⟩), .int .i64 (v : Int)] w fun e w' => ∃ so sc, e = .returned (.slice so (rowL bs R false v).length sc) ∧ HasHs w' (.slice so (rowL bs R false v).length sc) (rowL bs R false v) ∧ Below w.heap.size w w' := by
  refine (h.out (v : Int)).mono ?_
  rintro e w' ⟨v', rfl, h1, h2, h3⟩
  rw [alive_liv hv] at h1 h2
  cases hl : liv bs v with
  | false =>
    rw [h1 hl, rowL_dead h.inv false hv hl]
    exact ⟨none, 0, rfl, ⟨none, 0, rfl, fun j a hj => by simp at hj⟩, h3⟩
  | true =>
    have h4 := h2 hl
    rw [Int.toNat_natCast] at h4
    obtain ⟨so, sc, rfl⟩ := rowH_slice h4
    exact ⟨so, sc, rfl, hs_of_rowH h4, h3⟩
theorem IsOv.inL (h : IsOv PX B0 w pb n bs R nodes arcs) {v : Nat} (hv : v < n) : Calls Try.prog 12 #[.pointer (some ⟨pb, 0, none⟩), .int .i64 (v : Int)] w fun e w' => ∃ so sc, e = .returned (.slice so (rowL bs R true v).length sc) ∧ HasHs w' (.slice so (rowL bs R true v).length sc) (rowL bs R true v) ∧ Below w.heap.size w w' := by
  refine (h.inn (v : Int)).mono ?_
  rintro e w' ⟨v', rfl, h1, h2, h3⟩
  rw [alive_liv hv] at h1 h2
  cases hl : liv bs v with
  | false =>
    rw [h1 hl, rowL_dead h.inv true hv hl]
    exact ⟨none, 0, rfl, ⟨none, 0, rfl, fun j a hj => by simp at hj⟩, h3⟩
  | true =>
    have h4 := h2 hl
    rw [Int.toNat_natCast] at h4
    obtain ⟨so, sc, rfl⟩ := rowH_slice h4
    exact ⟨so, sc, rfl, hs_of_rowH h4, h3⟩
theorem IsOv.rowLe (h : IsOv PX B0 w pb n bs R nodes arcs) (s : Bool) {v : Nat} (hv : v < n) : (rowL bs R s v).length ≤ 65536 := Nat.le_trans (livH_len _ _) (h.rowLen s hv)
end
end Go.Proofs.Ytpaamcapopnhoaa
