/- normal.Of at a right graph, whatever its compacting makes: the arcs that are no loops, sorted, compacted. -/
import Derived.Test.YtbkclhaonbjobaaGreatSort
import Derived.Deep.DeepAppendRoom
import Derived.OwnWalk
namespace Go.Proofs.YtbkclhaonbjobaaGreat
open Go.RowKit Go.Extern Go.Sort Go.Shelf

attribute [local go_sem] Oper.semAt_some

theorem Tryz.info51 : (Tryz.prog.info? 84).map (fun i => (i.zero, i.size, i.bytes)) = some (some (.agg #[.int .i64 0, .int .i64 0, .int .i64 0]), 3, 24) := by kernel_rfl
/-- the cells of arcs. -/
def flatA (l : List (Int × Int × Int)) : List Value := l.flatMap encA
theorem flatA_append (l r : List (Int × Int × Int)) : flatA (l ++ r) = flatA l ++ flatA r := by simp [flatA]
theorem flatA_get : ∀ (l : List (Int × Int × Int)) (i : Nat) (a : Int × Int × Int), l[i]? = some a → ∀ c, c < 3 → (flatA l)[i * 3 + c]? = some (encA a)[c]!
  | [], i, a, h, c, _ => by simp at h
  | b :: r, 0, a, h, c, hc => by
    simp at h
    subst h
    have e : flatA (b :: r) = encA b ++ flatA r := by simp [flatA]
    rw [e, List.getElem?_append_left (by simp [encA]; omega)]
    rcases (show c = 0 ∨ c = 1 ∨ c = 2 by omega) with rfl | rfl | rfl <;> simp [encA]
  | b :: r, i + 1, a, h, c, hc => by
    have e : flatA (b :: r) = encA b ++ flatA r := by simp [flatA]
    rw [e, List.getElem?_append_right (by simp [encA]; omega)]
    have e2 : (i + 1) * 3 + c - (encA b).length = i * 3 + c := by simp [encA]; omega
    rw [e2]
    exact flatA_get r i a (by simpa using h) c hc
theorem holds_of_row {w : World} {base g n cap : Nat} {l : List (Int × Int × Int)} (hn : n = l.length) (h : w.ownsRow base 84 3 (.slice (some ⟨g, 0, none⟩) n cap) n (flatA l)) : HoldsK encA 3 w g 0 l.toArray := by
  subst hn
  rcases h.2 with ⟨e, _⟩ | ⟨g', cap', cur, e, _, hh, _, _, _, htk⟩
  · cases e
  · cases e
    intro j hj
    rw [size_flatK] at hj
    simp only [List.size_toArray] at hj
    have hi : j / 3 < l.length := by omega
    obtain ⟨a, ha⟩ : ∃ a, l[j / 3]? = some a := ⟨l[j / 3], List.getElem?_eq_getElem hi⟩
    have hc : w.cell? ⟨g, j, none⟩ = some (encA a)[j % 3]! := by
      have hg := flatA_get l (j / 3) a ha (j % 3) (by omega)
      rw [show j / 3 * 3 + j % 3 = j by omega] at hg
      rw [h.cellAt j (by omega)]
      exact hg
    have hd : l.toArray[j / 3]! = a := by
      have := (List.getElem?_eq_some_iff.1 ha).2
      simp [hi, this]
    refine ⟨?_, by simp [World.frozen?, hh]⟩
    rw [Nat.zero_add, hc, get_flatK _ _ _ _ (by simpa using hj), hd]
    rfl

/-- the arcs that are no loops. -/
def kept (xs : List (Int × Int × Int)) : List (Int × Int × Int) := xs.filter fun a => !(a.1 == a.2.1)
/-- they, sorted. -/
def sortedA (xs : List (Int × Int × Int)) : Array (Int × Int × Int) := pdq (ltOf arcI) (kept xs).toArray 0 (kept xs).toArray.size (Lib.bitLen (kept xs).toArray.size) true true
theorem kept_snoc {xs : List (Int × Int × Int)} {k : Nat} {a : Int × Int × Int} (h : xs[k]? = some a) : kept (xs.take (k + 1)) = kept (xs.take k) ++ (if a.1 == a.2.1 then [] else [a]) := by
  obtain ⟨hlt, he⟩ := List.getElem?_eq_some_iff.1 h
  rw [List.take_succ_eq_append_getElem hlt, he]
  unfold kept
  rw [List.filter_append]
  congr 1
  by_cases hb : a.1 == a.2.1 <;> simp [hb]
theorem kept_le (xs : List (Int × Int × Int)) : (kept xs).length ≤ xs.length := List.length_filter_le _ _

theorem row_keep {w w' : World} {base g n cap : Nat} {xs : List Value} (h : w.ownsRow base 84 3 (.slice (some ⟨g, 0, none⟩) n cap) n xs) (hk : w'.heap[g]? = w.heap[g]?) : w'.ownsRow base 84 3 (.slice (some ⟨g, 0, none⟩) n cap) n xs := by
  obtain ⟨h1, h2⟩ := h
  refine ⟨h1, ?_⟩
  rcases h2 with h2 | ⟨g', cap', cur, e, hb, hh, r⟩
  · exact Or.inl h2
  · cases e
    exact Or.inr ⟨g, cap, cur, rfl, hb, hk.trans hh, r⟩
/-- what holds at each round of Of's first loop. -/
structure OfI (w : World) (R : Nat) (N : Int) (ao : Option Addr) (cap : Nat) (xs : List (Int × Int × Int)) (l : List (Int × Int × Int)) (wr : World) : Prop where
  row : wr.ownsRow w.heap.size 84 3 (.slice (some ⟨R, 0, none⟩) l.length xs.length) l.length (flatA l)
  lt : R < wr.heap.size
  box : wr.heap[w.heap.size]? = some (.cells #[.int .i64 N, .slice ao xs.length cap] 24)
  res : wr.heap[w.heap.size + 1]? = some (.cells #[.int .i64 0, .slice none 0 0] 24)
  below : Below w.heap.size w wr
theorem OfI.keep {w : World} {R : Nat} {N : Int} {ao : Option Addr} {cap : Nat} {xs l : List (Int × Int × Int)} {wr wn : World} (h : OfI w R N ao cap xs l wr) (hb : Below wr.heap.size wr wn) : OfI w R N ao cap xs l wn :=
  ⟨row_keep h.row (hb.block _ h.lt), Nat.lt_of_lt_of_le h.lt hb.size, (hb.block _ (lt_of_get h.box)).trans h.box, (hb.block _ (lt_of_get h.res)).trans h.res, h.below.trans (hb.mono h.below.size)⟩

/-- what compacting is asked for. -/
def Compacts (xs zs : List (Int × Int × Int)) : Prop := ∀ (b : Nat) (wx : World), HoldsK encA 3 wx b 0 (sortedA xs) → b < wx.heap.size →
  Calls Tryz.prog 49 #[.slice (some ⟨b, 0, none⟩) (kept xs).length xs.length, .func (.func 50) #[] #[]] wx fun e w' => e = .returned (.slice (some ⟨b, 0, none⟩) zs.length xs.length) ∧ HasArcs w' (.slice (some ⟨b, 0, none⟩) zs.length xs.length) zs ∧ Touch b wx w'

set_option maxRecDepth 100000 in
set_option maxHeartbeats 4000000 in
theorem of_calls (N : Int) (ao : Option Addr) (cap : Nat) (xs zs : List (Int × Int × Int)) (w : World) (hl : HasArcs w (.slice ao xs.length cap) xs) (hgood : graphErr N xs = (0, [])) (hm : xs.length ≤ 262144) (hC : Compacts xs zs) :
    Calls Tryz.prog 26 #[.agg #[.int .i64 N, .slice ao xs.length cap]] w fun e w' => ∃ b, e = .returned (.tuple #[.agg #[.int .i64 N, .slice (some ⟨b, 0, none⟩) zs.length xs.length], .nilIface]) ∧ HasArcs w' (.slice (some ⟨b, 0, none⟩) zs.length xs.length) zs ∧ Below w.heap.size w w' := by
  obtain ⟨i0, hi, hz0, hz1, hz2⟩ : ∃ i, Tryz.prog.info? 84 = some i ∧ i.zero = some (.agg #[.int .i64 0, .int .i64 0, .int .i64 0]) ∧ i.size = 3 ∧ i.bytes = 24 := by
    have h := Tryz.info51
    cases hi : Tryz.prog.info? 84 with
    | none => rw [hi] at h; cases h
    | some i => rw [hi] at h; simp at h; exact ⟨i, rfl, h.1, h.2.1, h.2.2⟩
  obtain ⟨W0, hW0⟩ : ∃ W0, (w.alloc (.cells #[.int .i64 N, .slice ao xs.length cap] 24)).alloc (.cells #[.int .i64 0, .slice none 0 0] 24) = W0 := ⟨_, rfl⟩
  have hB0 : Below w.heap.size w W0 := by rw [← hW0]; exact ((Below.refl _ w).alloc (Nat.le_refl _) _).alloc (by simp) _
  have k0 : W0.heap[w.heap.size]? = some (.cells #[.int .i64 N, .slice ao xs.length cap] 24) := by rw [← hW0, Below.heap_alloc _ _ _ (by simp)]; exact heap_new _ _
  have k1 : W0.heap[w.heap.size + 1]? = some (.cells #[.int .i64 0, .slice none 0 0] 24) := by
    have h := heap_new (w.alloc (.cells #[.int .i64 N, .slice ao xs.length cap] 24)) (.cells #[.int .i64 0, .slice none 0 0] 24)
    rw [hW0] at h
    simpa using h
  have hs0 : W0.heap.size = w.heap.size + 2 := by rw [← hW0]; simp
  have HW0 : Hid ((w.alloc (.cells #[.int .i64 N, .slice ao xs.length cap] 24)).alloc (.cells #[.int .i64 0, .slice none 0 0] 24) = W0) := hW0
  have HB0 : Hid (Below w.heap.size w W0) := hB0
  have HCK : Hid (Calls Tryz.prog 42 #[.agg #[.int .i64 N, .slice ao xs.length cap]] W0 fun e w' => e = .returned .nilIface ∧ Below W0.heap.size W0 w') := by
    refine (check_calls N ao cap xs W0 (hl.keep hB0) (by unfold maxLen; omega)).mono ?_
    rintro e w' ⟨v, rfl, ht, hb⟩
    rw [hgood] at ht
    rcases ht with ⟨_, rfl⟩ | ⟨h, _⟩
    · exact ⟨rfl, hb⟩
    · exact absurd rfl h
  have HL : Hid (HasArcs w (.slice ao xs.length cap) xs) := hl
  have HK0 : Hid (W0.heap[w.heap.size]? = some (.cells #[.int .i64 N, .slice ao xs.length cap] 24) ∧ W0.heap[w.heap.size + 1]? = some (.cells #[.int .i64 0, .slice none 0 0] 24)) := ⟨k0, k1⟩
  have HC : Hid (Compacts xs zs) := hC
  clear hl k0 k1 hB0 hW0 hgood hC
  have HIL : Hid (∀ (x0 x1 x2 : Int) (wx : World), Calls Tryz.prog 43 #[.agg #[.int .i64 x0, .int .i64 x1, .int .i64 x2]] wx fun e w' => e = .returned (.bool (x0 == x1)) ∧ Laid wx w') := fun x0 x1 x2 wx => isLoop_calls (x0, x1, x2) wx
  go_enter Tryz.func26, Tryz.ntmps26
  go_wp2_with fail
  rw [HW0.out]
  refine HCK.out.mono ?_
  rintro e w1 ⟨rfl, hb1⟩
  have HB1 : Hid (Below w.heap.size w w1) := HB0.out.trans (hb1.mono HB0.out.size)
  have HK1 : Hid (w1.heap[w.heap.size]? = some (.cells #[.int .i64 N, .slice ao xs.length cap] 24) ∧ w1.heap[w.heap.size + 1]? = some (.cells #[.int .i64 0, .slice none 0 0] 24)) := ⟨(hb1.block _ (by omega)).trans HK0.out.1, (hb1.block _ (by omega)).trans HK0.out.2⟩
  have hs1 : w.heap.size + 1 < w1.heap.size := lt_of_get HK1.out.2
  have hs2 : w.heap.size < w1.heap.size := by omega
  obtain ⟨c0, c1⟩ : w1.cell? ⟨w.heap.size, 0, none⟩ = some (.int .i64 N) ∧ w1.cell? ⟨w.heap.size, 1, none⟩ = some (.slice ao xs.length cap) := by simp [World.cell?, HK1.out.1]
  clear hb1
  go_wp2_with (refine wpList_make_own _ rfl _ _ 22 rfl w.heap.size 84 i0 (.agg #[.int .i64 0, .int .i64 0, .int .i64 0]) 3 Tryz.underlying22 hi hz0 hz1 .i64 .i64 (xs.length : Int) xs.length rfl rfl rfl ?hby ?h63 ?hbase ?_; (case hby => rw [hz2]; omega); (case h63 => unfold maxLen; omega); (case hbase => omega); intro w2 hown2 hgrow2; have hbW2 : ∀ k, k < w1.heap.size → w2.heap[k]? = w1.heap[k]? := (fun k hk => hgrow2.block k hk (by simp)); have hlt2 : w1.heap.size ≤ w2.heap.size := hgrow2.size; have d0 : w2.cell? ⟨w.heap.size, 0, none⟩ = some (.int .i64 N) := (World.cell?_of_block (w := w1) (a := ⟨w.heap.size, 0, none⟩) (hbW2 _ hs2)).trans c0; have d1 : w2.cell? ⟨w.heap.size, 1, none⟩ = some (.slice ao xs.length cap) := (World.cell?_of_block (w := w1) (a := ⟨w.heap.size, 1, none⟩) (hbW2 _ hs2)).trans c1)
  have hlR : w1.heap.size < w2.heap.size := by
    rcases hown2.2 with ⟨e, _⟩ | ⟨g', cap', cur, e, _, hh, _⟩
    · cases e
    · cases e; exact lt_of_get hh
  have HI2 : Hid (OfI w w1.heap.size N ao cap xs [] w2) := ⟨hown2, hlR, (hbW2 _ hs2).trans HK1.out.1, (hbW2 _ hs1).trans HK1.out.2, HB1.out.trans ⟨hgrow2.os, hgrow2.tape, hgrow2.output, hgrow2.size, fun k hk => hbW2 k (by omega)⟩⟩
  have HR : Hid (w.heap.size + 1 < w1.heap.size) := hs1
  clear hown2 hgrow2 hbW2 hlt2 c0 c1 d0 d1 hlR
  obtain ⟨R, hR⟩ : ∃ R, w1.heap.size = R := ⟨_, rfl⟩
  rw [hR] at HI2 HR ⊢
  clear hs1 hs2 HK1 HB1 hR
  go_loopw [5, 21] (fun sv iv wr => ∃ k : Nat, k ≤ xs.length ∧ iv = .int .i64 k ∧ sv = .slice (some ⟨R, 0, none⟩) (kept (xs.take k)).length xs.length ∧ OfI w R N ao cap xs (kept (xs.take k)) wr) (fun _ iv _ => xs.length - (intOf iv).toNat)
  case atStart => exact ⟨0, Nat.zero_le _, rfl, rfl, HI2.out⟩
  case round =>
    obtain ⟨k, hk, rfl, hsv, hinv⟩ := hrel
    subst hsv
    have HI : Hid (OfI w R N ao cap xs (kept (xs.take k)) wr) := hinv
    clear hinv
    by_cases hlt : k < xs.length
    · obtain ⟨a, ha⟩ : ∃ a, xs[k]? = some a := ⟨xs[k], List.getElem?_eq_getElem hlt⟩
      obtain ⟨b, off, hao, hbl, q0, q1, q2⟩ := HL.out.at ha
      subst hao
      have e0 := (HI.out.below.cell (p := ⟨b, off + k * 3, none⟩) hbl).trans q0
      have e1 := (HI.out.below.cell (p := ⟨b, off + k * 3 + 1, none⟩) hbl).trans q1
      have e2 := (HI.out.below.cell (p := ⟨b, off + k * 3 + 2, none⟩) hbl).trans q2
      have HKS : Hid (kept (xs.take (k + 1)) = kept (xs.take k) ++ (if a.1 == a.2.1 then [] else [a])) := kept_snoc ha
      have HKL : Hid ((kept (xs.take k)).length ≤ k) := by show _ ≤ _; exact Nat.le_trans (kept_le _) (by rw [List.length_take]; omega)
      clear q0 q1 q2 ha
      generalize kept (xs.take k) = K at *
      obtain ⟨a0, a1, a2⟩ := a
      simp only at e0 e1 e2 HKS
      have hBA : Below wr.heap.size wr (wr.alloc (.cells #[.int .i64 a0, .int .i64 a1, .int .i64 a2] 84)) := (Below.refl _ wr).alloc (Nat.le_refl _) _
      have HIA : Hid (∀ wx, Laid (wr.alloc (.cells #[.int .i64 a0, .int .i64 a1, .int .i64 a2] 84)) wx → OfI w R N (some ⟨b, off, none⟩) cap xs K wx ∧ wx.cell? ⟨wr.heap.size, 0, none⟩ = some (.int .i64 a0) ∧ wx.cell? ⟨wr.heap.size, 1, none⟩ = some (.int .i64 a1) ∧ wx.cell? ⟨wr.heap.size, 2, none⟩ = some (.int .i64 a2) ∧ wr.heap.size < wx.heap.size) := fun wx h => by
        have hn : wx.heap[wr.heap.size]? = some (.cells #[.int .i64 a0, .int .i64 a1, .int .i64 a2] 84) := (h.block (by simp)).trans (heap_new _ _)
        exact ⟨HI.out.keep (hBA.trans (h.below.mono (by simp))), by simp [World.cell?, hn], by simp [World.cell?, hn], by simp [World.cell?, hn], lt_of_get hn⟩
      clear hBA
      go_wp2_with fail
      refine (HIL.out _ _ _ _).mono ?_
      rintro e w3 ⟨rfl, hL3⟩
      obtain ⟨hI3, f0, f1, f2, hs3⟩ := HIA.out w3 hL3
      have HI3 : Hid (OfI w R N (some ⟨b, off, none⟩) cap xs K w3) := hI3
      clear hL3 hI3
      by_cases hab : a0 = a1
      · have hab' : (a0 == a1) = true := by simpa using hab
        have HKE : Hid (kept (xs.take (k + 1)) = K) := by have h := HKS.out; rw [hab', if_pos rfl, List.append_nil] at h; exact h
        clear hab
        go_wp2
        go_roundw
        case rel => exact ⟨k + 1, by omega, by go_num, by rw [HKE.out], by rw [HKE.out]; exact HI3.out⟩
        case measure => simp [intOf]; omega
      · have hab' : (a0 == a1) = false := by simpa using hab
        have HKE : Hid (kept (xs.take (k + 1)) = K ++ [(a0, a1, a2)]) := by have h := HKS.out; rw [hab', if_neg (by decide)] at h; exact h
        have hKl : K.length + 1 ≤ xs.length := by have := HKL.out; omega
        clear hab
        go_wp2_with (at_builtin; refine wpList_append_own_spare _ rfl _ _ 22 rfl w.heap.size 84 i0 3 Tryz.underlying22 hi hz1 R K.length xs.length (flatA K) rfl ?hown ⟨w3.heap.size, 0, none⟩ 1 1 [.int .i64 a0, .int .i64 a1, .int .i64 a2] rfl rfl ?hnews ?hone ?hroom ?_; (case hown => exact (HI3.out.keep ((Below.refl _ w3).alloc (Nat.le_refl _) _)).row); (case hnews => intro j x hx; rcases j with _ | _ | _ | j <;> simp at hx <;> subst hx <;> simp [Addr.add]); (case hone => intro x hx; simp at hx; rcases hx with rfl | rfl | rfl <;> rfl); (case hroom => exact hKl); intro w5 hown5 hgrow5)
        have HI4 : Hid (OfI w R N (some ⟨b, off, none⟩) cap xs K (w3.alloc (.cells #[.int .i64 a0, .int .i64 a1, .int .i64 a2] 84))) := HI3.out.keep ((Below.refl _ w3).alloc (Nat.le_refl _) _)
        have hRR := HR.out
        refine ⟨⟨k + 1, by omega, by go_num, by rw [HKE.out, List.length_append]; rfl, ?_⟩, by simp [intOf]; omega⟩
        rw [HKE.out]
        have hbk : ∀ j, j < (w3.alloc (.cells #[.int .i64 a0, .int .i64 a1, .int .i64 a2] 84)).heap.size → j ≠ R → w5.heap[j]? = (w3.alloc (.cells #[.int .i64 a0, .int .i64 a1, .int .i64 a2] 84)).heap[j]? := fun j hj hne => hgrow5.block j hj (fun e => hne (Option.some.inj e))
        refine ⟨?_, Nat.lt_of_lt_of_le HI4.out.lt hgrow5.size, (hbk _ (lt_of_get HI4.out.box) (by omega)).trans HI4.out.box, (hbk _ (lt_of_get HI4.out.res) (by omega)).trans HI4.out.res, ?_⟩
        · rw [flatA_append, List.length_append]
          exact hown5
        · exact HI4.out.below.trans ⟨hgrow5.os, hgrow5.tape, hgrow5.output, hgrow5.size, fun j hj => hbk j (by have := HI4.out.below.size; omega) (by omega)⟩
    · obtain rfl : k = xs.length := by omega
      rw [List.take_length] at HI ⊢
      have HSO : Hid (Calls Tryz.prog 44 #[.slice (some ⟨R, 0, none⟩) (kept xs).length xs.length, .func (.func 45) #[] #[]] wr fun e w' => e = .returned (.tuple #[]) ∧ HoldsK encA 3 w' R 0 (sortedA xs) ∧ Touch R wr w') :=
        sort_calls R xs.length (kept xs).toArray wr (holds_of_row rfl HI.out.row) HI.out.lt (by have := kept_le xs; simp; omega)
      go_wp2_with fail
      refine HSO.out.mono ?_
      rintro e w3 ⟨rfl, hH3, ht3⟩
      have HCO : Hid (Calls Tryz.prog 49 #[.slice (some ⟨R, 0, none⟩) (kept xs).length xs.length, .func (.func 50) #[] #[]] w3 fun e w' => e = .returned (.slice (some ⟨R, 0, none⟩) zs.length xs.length) ∧ HasArcs w' (.slice (some ⟨R, 0, none⟩) zs.length xs.length) zs ∧ Touch R w3 w') := HC.out R w3 hH3 (Nat.lt_of_lt_of_le HI.out.lt ht3.size)
      have HT3 : Hid (Touch R wr w3) := ht3
      clear hH3 ht3
      go_wp2_with fail
      refine HCO.out.mono ?_
      rintro e w4 ⟨rfl, hA4, ht4⟩
      have hRR := HR.out
      have hbk : ∀ j, j < wr.heap.size → j ≠ R → w4.heap[j]? = wr.heap[j]? := fun j hj hne => (ht4.block j (Nat.lt_of_lt_of_le hj HT3.out.size) hne).trans (HT3.out.block j hj hne)
      have g0 : w4.heap[w.heap.size]? = some (.cells #[.int .i64 N, .slice ao xs.length cap] 24) := (hbk _ (lt_of_get HI.out.box) (by omega)).trans HI.out.box
      have g1 : w4.heap[w.heap.size + 1]? = some (.cells #[.int .i64 0, .slice none 0 0] 24) := (hbk _ (lt_of_get HI.out.res) (by omega)).trans HI.out.res
      have HB4 : Hid (Below w.heap.size w w4) := HI.out.below.trans ⟨ht4.os.trans HT3.out.os, ht4.tape.trans HT3.out.tape, ht4.output.trans HT3.out.output, Nat.le_trans HT3.out.size ht4.size, fun j hj => hbk j (by have := HI.out.below.size; omega) (by omega)⟩
      have HA4 : Hid (HasArcs w4 (.slice (some ⟨R, 0, none⟩) zs.length xs.length) zs) := hA4
      obtain ⟨b0, b1, y0, y1⟩ : w4.cell? ⟨w.heap.size + 1, 0, none⟩ = some (.int .i64 0) ∧ w4.cell? ⟨w.heap.size + 1, 1, none⟩ = some (.slice none 0 0) ∧ w4.frozen? ⟨w.heap.size + 1, 0, none⟩ = false ∧ w4.frozen? ⟨w.heap.size + 1, 1, none⟩ = false := by simp [World.cell?, World.frozen?, g1]
      obtain ⟨c0, c1⟩ : w4.cell? ⟨w.heap.size, 0, none⟩ = some (.int .i64 N) ∧ w4.cell? ⟨w.heap.size, 1, none⟩ = some (.slice ao xs.length cap) := by simp [World.cell?, g0]
      clear hA4 ht4 hbk g0 g1
      go_wp2
      refine bodyPost_ret (v := .tuple #[.agg #[.int .i64 N, .slice (some ⟨R, 0, none⟩) zs.length xs.length], .nilIface]) (by simp [results, Tryz.results26, go_sem, b0, b1]) rfl ⟨R, rfl, ?_, ?_⟩
      · obtain ⟨ao', cap', e, hc⟩ := HA4.out
        refine ⟨ao', cap', e, fun j a hj => ?_⟩
        obtain ⟨b', off', ea, hl', h0, h1, h2⟩ := hc j a hj
        subst ea
        cases e
        refine ⟨R, 0, rfl, by simp; exact hl', ?_, ?_, ?_⟩
        · rw [World.cell?_setCell_other _ _ _ _ (by intro e; have := congrArg Addr.block e; simp at this; omega), World.cell?_setCell_other _ _ _ _ (by intro e; have := congrArg Addr.block e; simp at this; omega)]; exact h0
        · rw [World.cell?_setCell_other _ _ _ _ (by intro e; have := congrArg Addr.block e; simp at this; omega), World.cell?_setCell_other _ _ _ _ (by intro e; have := congrArg Addr.block e; simp at this; omega)]; exact h1
        · rw [World.cell?_setCell_other _ _ _ _ (by intro e; have := congrArg Addr.block e; simp at this; omega), World.cell?_setCell_other _ _ _ _ (by intro e; have := congrArg Addr.block e; simp at this; omega)]; exact h2
      · exact (HB4.out.setCell (p := ⟨w.heap.size + 1, 0, none⟩) (by simp) _).setCell (p := ⟨w.heap.size + 1, 1, none⟩) (by simp) _
end Go.Proofs.YtbkclhaonbjobaaGreat
