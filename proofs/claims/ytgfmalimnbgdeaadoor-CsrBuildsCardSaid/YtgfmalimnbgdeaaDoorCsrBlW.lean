/- The law CsrBuilds, walked. -/
import Derived.Test.YtgfmalimnbgdeaaDoorDocBk
import Derived.Test.YtgfmalimnbgdeaaDoorCsrWake
import Derived.Deep.RegionHeld3
namespace Go.Proofs.YtgfmalimnbgdeaaDoor
open Go.RowKit Go.Extern

attribute [local go_sem] Oper.semAt_some

/-- the arrays of a graph; of one that is not right: none. -/
def arrF (N : Int) (E : Int × List (Int × Int)) (zs : List (Int × Int × Int)) : List Int := if E = (0, []) then firsts N.toNat zs else []
def arrT (E : Int × List (Int × Int)) (zs : List (Int × Int × Int)) : List Int := if E = (0, []) then tos zs else []
def arrV (E : Int × List (Int × Int)) (zs : List (Int × Int × Int)) : List Int := if E = (0, []) then weights zs else []
/-- what the program answers: arrays in new memory. -/
def AnsP (w : World) (E : Int × List (Int × Int)) (A B C : List Int) (e : Ending) (w' : World) : Prop := ∃ fo fc uo uc wo wc v, e = .returned (.tuple #[.agg #[.slice fo A.length fc, .slice uo B.length uc, .slice wo C.length wc], v]) ∧ IsTold w' E v ∧ HasInts w' (.slice fo A.length fc) A ∧ HasInts w' (.slice uo B.length uc) B ∧ HasInts w' (.slice wo C.length wc) C ∧ (NewI w (.slice fo A.length fc) ∧ NewI w (.slice uo B.length uc) ∧ NewI w (.slice wo C.length wc)) ∧ Below w.heap.size w w'
/-- what the reference answers. -/
def AnsR (w : World) (E : Int × List (Int × Int)) (A B C : List Int) (e : Ending) (w' : World) : Prop := ∃ fo fc uo uc wo wc po pc, e = .returned (.tuple #[.agg #[.slice fo A.length fc, .slice uo B.length uc, .slice wo C.length wc], .agg #[.int .i64 E.1, .slice po E.2.length pc]]) ∧ HasPlaces w' (.slice po E.2.length pc) E.2 ∧ HasInts w' (.slice fo A.length fc) A ∧ HasInts w' (.slice uo B.length uc) B ∧ HasInts w' (.slice wo C.length wc) C ∧ (NewI w (.slice fo A.length fc) ∧ NewI w (.slice uo B.length uc) ∧ NewI w (.slice wo C.length wc)) ∧ Below w.heap.size w w'
theorem ints_none (w : World) (c : Nat) : HasInts w (.slice none 0 c) [] := ⟨none, c, rfl, fun j a hj => by simp at hj⟩
section
variable {N : Int} {ao : Option Addr} {k cap : Nat} {xs : List (Int × Int × Int)} {w : World}
theorem row_ints {wx : World} {F len : Nat} {f : Nat → Int} {l : List Int} (h : IntRow wx F len f) (hl : l.length = len) (hf : ∀ i a, l[i]? = some a → f i = a) : HasInts wx (.slice (some ⟨F, 0, none⟩) l.length len) l := by
  have := h.ints len hl hf
  rw [hl]
  exact this
theorem getD_at {l : List Int} {i : Nat} {a : Int} (h : l[i]? = some a) : l.getD i 0 = a := by rw [List.getD_eq_getElem?_getD, h]; rfl
theorem first_at {n : Nat} {zs : List (Int × Int × Int)} {i : Nat} {a : Int} (hi : (firsts n zs)[i]? = some a) : (firstAt zs i : Int) = a := by
  have hl := (List.getElem?_eq_some_iff.1 hi).1
  rw [firsts_len] at hl
  rw [firsts_at zs (show i ≤ n by omega)] at hi
  exact Option.some.inj hi
theorem build_any (hl : HasArcs w (.slice ao xs.length cap) xs) (hm : xs.length ≤ maxLen) : Calls Tryd.prog 9 #[.agg #[.int .i64 N, .slice ao xs.length cap]] w (AnsP w (graphErr N xs) (arrF N (graphErr N xs) (normA xs)) (arrT (graphErr N xs) (normA xs)) (arrV (graphErr N xs) (normA xs))) := by
  unfold arrF arrT arrV
  by_cases hg : graphErr N xs = (0, [])
  · rw [if_pos hg, if_pos hg, if_pos hg, hg]
    obtain ⟨n, rfl⟩ := good_nat hg
    rw [Int.toNat_natCast]
    refine (build_good n ao _ cap xs w hl hg).mono ?_
    rintro e w' ⟨F, T, V, rfl, hlow, hf, ht, hv, hb⟩
    refine ⟨_, n + 1, _, (normA xs).length, _, (normA xs).length, .nilIface, ?_, Or.inl ⟨rfl, rfl⟩, row_ints hf (firsts_len _ _) (fun i a hi => first_at hi), row_ints ht (tos_len _) (fun i a hi => getD_at hi), row_ints hv (weights_len _) (fun i a hi => getD_at hi), ⟨newI_at hlow.1, newI_at hlow.2.1, newI_at hlow.2.2.1⟩, hb⟩
    rw [firsts_len, tos_len, weights_len]
  · rw [if_neg hg, if_neg hg, if_neg hg]
    refine (build_bad N ao _ cap xs w hl hm hg).mono ?_
    rintro e w' ⟨T, x, rfl, ht, hb⟩
    exact ⟨none, 0, none, 0, none, 0, _, rfl, ht, ints_none _ _, ints_none _ _, ints_none _ _, ⟨newI_nil _ _ _, newI_nil _ _ _, newI_nil _ _ _⟩, hb⟩
theorem back_any (hl : HasArcs w (.slice ao xs.length cap) xs) (hm : xs.length ≤ maxLen) : Calls Tryd.prog 14 #[.agg #[.int .i64 N, .slice ao xs.length cap]] w (AnsP w (graphErr N xs) (arrF N (graphErr N xs) (normA (xs.map turn))) (arrT (graphErr N xs) (normA (xs.map turn))) (arrV (graphErr N xs) (normA (xs.map turn)))) := by
  unfold arrF arrT arrV
  by_cases hg : graphErr N xs = (0, [])
  · rw [if_pos hg, if_pos hg, if_pos hg, hg]
    obtain ⟨n, rfl⟩ := good_nat hg
    rw [Int.toNat_natCast]
    refine (back_good n ao _ cap xs w hl hg).mono ?_
    rintro e w' ⟨F, T, V, rfl, hlow, hf, ht, hv, hb⟩
    refine ⟨_, n + 1, _, (normA (xs.map turn)).length, _, (normA (xs.map turn)).length, .nilIface, ?_, Or.inl ⟨rfl, rfl⟩, row_ints hf (firsts_len _ _) (fun i a hi => first_at hi), row_ints ht (tos_len _) (fun i a hi => getD_at hi), row_ints hv (weights_len _) (fun i a hi => getD_at hi), ⟨newI_at hlow.1, newI_at hlow.2.1, newI_at hlow.2.2.1⟩, hb⟩
    rw [firsts_len, tos_len, weights_len]
  · rw [if_neg hg, if_neg hg, if_neg hg]
    refine (back_bad N ao _ cap xs w hl hm hg).mono ?_
    rintro e w' ⟨T, x, rfl, ht, hb⟩
    exact ⟨none, 0, none, 0, none, 0, _, rfl, ht, ints_none _ _, ints_none _ _, ints_none _ _, ⟨newI_nil _ _ _, newI_nil _ _ _, newI_nil _ _ _⟩, hb⟩
theorem ints_slice {wx : World} {o : Option Addr} {n c : Nat} {l : List Int} (h : HasInts wx (.slice o n c) l) : n = l.length := by
  obtain ⟨ao', cap', e, _⟩ := h
  injection e
theorem docBuild_any (hl : HasArcs w (.slice ao xs.length cap) xs) (hm : xs.length ≤ maxLen) : Calls Tryd.prog 10 #[.agg #[.int .i64 N, .slice ao xs.length cap]] w (AnsR w (graphErr N xs) (arrF N (graphErr N xs) (normA xs)) (arrT (graphErr N xs) (normA xs)) (arrV (graphErr N xs) (normA xs))) := by
  refine (docBuild_calls N ao cap xs w hl hm).mono ?_
  rintro e w' ⟨fo, fl, fc, uo, ul, uc, wo, wl, wc, po, pc, rfl, hP, hA, hn, hb⟩
  unfold arrF arrT arrV
  rcases hA with ⟨hg, h1, h2, h3⟩ | ⟨hg, rfl, rfl, rfl⟩
  · rw [if_pos hg, if_pos hg, if_pos hg]
    have e1 := ints_slice h1
    have e2 := ints_slice h2
    have e3 := ints_slice h3
    subst e1 e2 e3
    exact ⟨fo, fc, uo, uc, wo, wc, po, pc, rfl, hP, h1, h2, h3, hn, hb⟩
  · rw [if_neg hg, if_neg hg, if_neg hg]
    exact ⟨fo, fc, uo, uc, wo, wc, po, pc, rfl, hP, ⟨_, _, rfl, fun j a hj => by simp at hj⟩, ⟨_, _, rfl, fun j a hj => by simp at hj⟩, ⟨_, _, rfl, fun j a hj => by simp at hj⟩, hn, hb⟩
theorem docBack_any (hl : HasArcs w (.slice ao xs.length cap) xs) (hm : xs.length ≤ maxLen) : Calls Tryd.prog 15 #[.agg #[.int .i64 N, .slice ao xs.length cap]] w (AnsR w (graphErr N xs) (arrF N (graphErr N xs) (normA (xs.map turn))) (arrT (graphErr N xs) (normA (xs.map turn))) (arrV (graphErr N xs) (normA (xs.map turn)))) := by
  refine (docBack_calls N ao cap xs w hl hm).mono ?_
  rintro e w' ⟨fo, fl, fc, uo, ul, uc, wo, wl, wc, po, pc, rfl, hP, hA, hn, hb⟩
  unfold arrF arrT arrV
  rcases hA with ⟨hg, h1, h2, h3⟩ | ⟨hg, rfl, rfl, rfl⟩
  · rw [if_pos hg, if_pos hg, if_pos hg]
    have e1 := ints_slice h1
    have e2 := ints_slice h2
    have e3 := ints_slice h3
    subst e1 e2 e3
    exact ⟨fo, fc, uo, uc, wo, wc, po, pc, rfl, hP, h1, h2, h3, hn, hb⟩
  · rw [if_neg hg, if_neg hg, if_neg hg]
    exact ⟨fo, fc, uo, uc, wo, wc, po, pc, rfl, hP, ⟨_, _, rfl, fun j a hj => by simp at hj⟩, ⟨_, _, rfl, fun j a hj => by simp at hj⟩, ⟨_, _, rfl, fun j a hj => by simp at hj⟩, hn, hb⟩
end
end Go.Proofs.YtgfmalimnbgdeaaDoor
