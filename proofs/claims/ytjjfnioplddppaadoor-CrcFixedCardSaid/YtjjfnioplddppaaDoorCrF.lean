/- check sums: Fits, by both texts. -/
import Derived.Test.YtjjfnioplddppaaDoorCrE
import Derived.Deep.RegionHeld3
import Derived.Deep.RegionWith
import Derived.Deep.QuietTactic
import Derived.BigQuiet
import Derived.Deep.Upon
namespace Go.Proofs.YtjjfnioplddppaaDoor
open Go.RowKit Go.Extern Cr

attribute [local go_sem] Oper.semAt_some u32_signed u32_max

theorem Tryd.elemB : Tryd.prog.underlying 25 = some (.slice (Tryd.prog.elem 25)) := by kernel_rfl
theorem Tryd.sizeB (w : World) : (sizeOf (Tryd.prog.elem 25)).run Tryd.prog w = .ok 1 w := by kernel_rfl
theorem or_split (k x y : Nat) (h : x < 2 ^ k) : x ||| (2 ^ k * y) = x + 2 ^ k * y := by
  rw [Nat.or_comm, Nat.add_comm, Nat.two_pow_add_eq_or_of_lt h]
theorem or_nat {a b : Nat} (ha : a < 4294967296) (hb : b < 4294967296) : bits .or .u32 (a : Int) (b : Int) = ((a ||| b : Nat) : Int) := u32_or_nat a b ha hb
theorem slice_uptoB (b off n lc i : Nat) (h : n ≤ lc) (hi : i ≤ n) (w : World) : (Instr.slice 25 (.slice (some ⟨b, off, none⟩) n lc) none (some (.int .i64 (i : Int))) none).run Tryd.prog w = .ok (.slice (some ⟨b, off, none⟩) i lc) w := by
  rw [run_slice_h (ht := Tryd.elemB) (h0 := by omega) (h2 := by omega), Tryd.sizeB]
  have e2 : (i : Int).toNat = i := by omega
  simp only [Result.andThen_ok, sliced, e2]
  simp [Addr.add]
theorem hasB_take {w : World} {lo : Option Addr} {lc n : Nat} {l : List Nat} (h : HasB w (.slice lo n lc) l) (k : Nat) : HasB w (.slice lo (l.take k).length lc) (l.take k) := by
  refine ⟨lo, lc, rfl, fun j a hj => ?_⟩
  have hj' : l[j]? = some a := by
    rw [List.getElem?_take] at hj
    split at hj
    · exact hj
    · cases hj
  obtain ⟨b, off, e, hb, hc⟩ := h.at hj'
  exact ⟨b, off, e, hb, hc⟩
theorem fits_short {l : List Nat} (h : l.length < 4) : fits l = false := by
  unfold fits
  rw [decide_eq_false]
  omega
theorem drop4 {l : List Nat} {k a b c d : Nat} (hk : l.length = k + 4) (h0 : l[k]? = some a) (h1 : l[k + 1]? = some b) (h2 : l[k + 2]? = some c) (h3 : l[k + 3]? = some d) : l.drop k = [a, b, c, d] := by
  apply List.ext_getElem?
  intro i
  rw [List.getElem?_drop]
  rcases i with _ | _ | _ | _ | i
  · simpa using h0
  · simpa using h1
  · simpa using h2
  · simpa using h3
  · rw [List.getElem?_eq_none (by omega)]
    simp
theorem fits_four {l : List Nat} {k a b c d : Nat} (hk : l.length = k + 4) (h0 : l[k]? = some a) (h1 : l[k + 1]? = some b) (h2 : l[k + 2]? = some c) (h3 : l[k + 3]? = some d) :
    fits l = decide (a + 256 * b + 65536 * c + 16777216 * d = upd 0 (l.take k)) := by
  unfold fits
  rw [hk, show k + 4 - 4 = k by omega, drop4 hk h0 h1 h2 h3]
  apply decide_eq_decide.2
  simp only [num]
  constructor
  · rintro ⟨_, h⟩
    omega
  · intro h
    exact ⟨by omega, by omega⟩

set_option maxRecDepth 100000 in
set_option maxHeartbeats 1000000 in
theorem cFits_calls (lo : Option Addr) (lc : Nat) (l : List Nat) (w : World) (hf : HasFours w) (hg : 0 < w.heap.size) (hl : HasB w (.slice lo l.length lc) l) (hb : Bts l) (hm : l.length ≤ 140737488355328) (hcap : l.length ≤ lc) :
    Calls Tryd.prog 8 #[.slice lo l.length lc] w fun e w' => e = .returned (.bool (fits l)) ∧ Below w.heap.size w w' := by
  by_cases h4 : l.length < 4
  · rw [fits_short h4]
    have i1 : (l.length : Int) - 4 < 0 := by omega
    go_enter Tryd.func8, Tryd.ntmps8
    go_wp2_with fail
    go_ret
    exact ⟨rfl, Below.refl _ _⟩
  · obtain ⟨k, hk⟩ : ∃ k, l.length = k + 4 := ⟨l.length - 4, by omega⟩
    obtain ⟨a0, h0⟩ : ∃ v, l[k]? = some v := ⟨l[k]'(by omega), List.getElem?_eq_getElem _⟩
    obtain ⟨a1, h1⟩ : ∃ v, l[k + 1]? = some v := ⟨l[k + 1]'(by omega), List.getElem?_eq_getElem _⟩
    obtain ⟨a2, h2⟩ : ∃ v, l[k + 2]? = some v := ⟨l[k + 2]'(by omega), List.getElem?_eq_getElem _⟩
    obtain ⟨a3, h3⟩ : ∃ v, l[k + 3]? = some v := ⟨l[k + 3]'(by omega), List.getElem?_eq_getElem _⟩
    have b0 := bts_at hb h0
    have b1 := bts_at hb h1
    have b2 := bts_at hb h2
    have b3 := bts_at hb h3
    obtain ⟨b, off, hlo, hbl, c0⟩ := hl.at h0
    subst hlo
    obtain ⟨_, _, e1, _, c1⟩ := hl.at h1
    cases e1
    obtain ⟨_, _, e2, _, c2⟩ := hl.at h2
    cases e2
    obtain ⟨_, _, e3, _, c3⟩ := hl.at h3
    cases e3
    have hlk : (l.take k).length = k := by rw [List.length_take]; omega
    have ES : Hid (∀ wx, Below w.heap.size w wx → Calls Tryd.prog 5 #[.slice (some ⟨b, off, none⟩) k lc] wx fun e w' => e = .returned (.int .u32 ((upd 0 (l.take k) : Nat) : Int)) ∧ w' = wx) := fun wx hx => by
      have := cSum_calls (some ⟨b, off, none⟩) lc (l.take k) wx (fours_keep hf hg hx) (hasB_take (hl.keep hx) k) (hb.take k) (by omega)
      rwa [hlk] at this
    have hsl : ∀ wx, (Instr.slice 25 (.slice (some ⟨b, off, none⟩) (k + 4) lc) none (some (.int .i64 (k : Int))) none).run Tryd.prog wx = .ok (.slice (some ⟨b, off, none⟩) k lc) wx := fun wx => slice_uptoB b off (k + 4) lc k (by omega) (by omega) wx
    rw [fits_four hk h0 h1 h2 h3, hk]
    have hs : upd 0 (l.take k) < 4294967296 := upd_lt (by omega) (hb.take k)
    generalize upd 0 (l.take k) = s at *
    have o1 : bits .or .u32 (a0 : Int) ((a1 : Int) * 256) = ((a0 + 256 * a1 : Nat) : Int) := by
      rw [show (a1 : Int) * 256 = ((2 ^ 8 * a1 : Nat) : Int) by omega, or_nat (by omega) (by omega), or_split 8 _ _ (by omega)]
    have o2 : bits .or .u32 ((a0 + 256 * a1 : Nat) : Int) ((a2 : Int) * 65536) = ((a0 + 256 * a1 + 65536 * a2 : Nat) : Int) := by
      rw [show (a2 : Int) * 65536 = ((2 ^ 16 * a2 : Nat) : Int) by omega, or_nat (by omega) (by omega), or_split 16 _ _ (by omega)]
    have o3 : bits .or .u32 ((a0 + 256 * a1 + 65536 * a2 : Nat) : Int) ((a3 : Int) * 16777216) = ((a0 + 256 * a1 + 65536 * a2 + 16777216 * a3 : Nat) : Int) := by
      rw [show (a3 : Int) * 16777216 = ((2 ^ 24 * a3 : Nat) : Int) by omega, or_nat (by omega) (by omega), or_split 24 _ _ (by omega)]
    have hlt1 : a0 + 256 * a1 < 65536 := by omega
    have hlt2 : a0 + 256 * a1 + 65536 * a2 < 16777216 := by omega
    have hlt3 : a0 + 256 * a1 + 65536 * a2 + 16777216 * a3 < 4294967296 := by omega
    generalize a0 + 256 * a1 + 65536 * a2 + 16777216 * a3 = t3 at *
    generalize a0 + 256 * a1 + 65536 * a2 = t2 at *
    generalize a0 + 256 * a1 = t1 at *
    clear hl hf hg h0 h1 h2 h3 hb hlk
    have i1 : ¬ ((k : Int) + 4 - 4 < 0) := by omega
    go_enter Tryd.func8, Tryd.ntmps8
    go_wp2_with fail
    go_quiet (fail)
    go_wp2_with (go_at_call 5; refine (ES.out _ (below_drewN (Below.refl _ _) nq)).mono ?_; rintro e w' ⟨rfl, rfl⟩)
    go_ret
    refine ⟨?_, below_drewN (Below.refl _ _) nq⟩
    have e : decide (t3 = s) = ((t3 : Int) == (s : Int)) := by
      rw [Bool.eq_iff_iff]
      simp
      omega
    rw [e]
    rfl

theorem four_or {s a b c d : Nat} (ha : a < 256) (hb : b < 256) (hc : c < 256) (h : a + 256 * b + 65536 * c + 16777216 * d = s) : (a : Int) = (s : Int) % 256 ∧ (b : Int) = (s : Int) / 256 % 256 ∧ (c : Int) = (s : Int) / 65536 % 256 ∧ (d : Int) = (s : Int) / 16777216 := by omega
theorem four_nor {s a b c d : Nat} (ha : a < 256) (hb : b < 256) (hc : c < 256) (h : ¬ a + 256 * b + 65536 * c + 16777216 * d = s) :
    (¬ (a : Int) = (s : Int) % 256) ∨ ((a : Int) = (s : Int) % 256 ∧ ¬ (b : Int) = (s : Int) / 256 % 256) ∨ ((a : Int) = (s : Int) % 256 ∧ (b : Int) = (s : Int) / 256 % 256 ∧ ¬ (c : Int) = (s : Int) / 65536 % 256) ∨ ((a : Int) = (s : Int) % 256 ∧ (b : Int) = (s : Int) / 256 % 256 ∧ (c : Int) = (s : Int) / 65536 % 256 ∧ ¬ (d : Int) = (s : Int) / 16777216) := by omega

end Go.Proofs.YtjjfnioplddppaaDoor
