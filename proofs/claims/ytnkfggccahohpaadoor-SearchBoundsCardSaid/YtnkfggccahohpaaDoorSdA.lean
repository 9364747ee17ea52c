/- viaductref08.Search.take: the node that is settled next. A bounded search ends in one way. The lists of the reference's search, and what the finder knows: alike, step by step. The reference's look at a node's arcs, and the finder's: alike. viaductref08.Run: its lists in memory. viaductref08.Run: the reference's bounded search. Many things laid side by side by a region that draws its order: whichever comes first, what follows is one. -/
import Derived.Test.YtnkfggccahohpaaDoorSeD
import Derived.BigQuiet
import Derived.Test.YtnkfggccahohpaaDoorSeX
import Derived.BigRegion
import Derived.Deep.RegionHeld
namespace Go.Proofs.YtnkfggccahohpaaDoor
open Go.RowKit Go.Extern

attribute [local go_sem] Oper.semAt_some

/-- a row of truths. -/
def Bools (w : World) (b : Nat) (l : List Bool) : Prop := w.heap[b]? = some (.cells (l.map Value.bool).toArray 4)
theorem Bools.at {w : World} {b : Nat} {l : List Bool} (h : Bools w b l) {k : Nat} {x : Bool} (hk : l[k]? = some x) : w.cell? ⟨b, k, none⟩ = some (.bool x) ∧ b < w.heap.size ∧ w.frozen? ⟨b, k, none⟩ = false := by
  refine ⟨?_, lt_of_get h, ?_⟩
  · simp [World.cell?, show w.heap[b]? = _ from h, hk]
  · simp [World.frozen?, show w.heap[b]? = _ from h]
/-- the open ones among the first i, and which of them is the least. -/
def opn (D : List Int) (Ha Se : List Bool) (u : Nat) (j : Int) : Prop := D[u]? = some j ∧ Ha[u]? = some true ∧ Se[u]? = some false
def LU (D : List Int) (Ha Se : List Bool) (i v : Nat) (k : Int) : Prop := v < i ∧ opn D Ha Se v k ∧ ∀ (u : Nat) (j : Int), u < i → opn D Ha Se u j → k < j ∨ (k = j ∧ v ≤ u)
def NU (D : List Int) (Ha Se : List Bool) (i : Nat) : Prop := ∀ (u : Nat) (j : Int), u < i → ¬ opn D Ha Se u j
theorem box4 {w : World} {b : Nat} {a c d e : Value} {T : TypeId} (h : w.heap[b]? = some (.cells #[a, c, d, e] T)) : w.cell? ⟨b, 0, none⟩ = some a ∧ w.cell? ⟨b, 1, none⟩ = some c ∧ w.cell? ⟨b, 2, none⟩ = some d ∧ w.cell? ⟨b, 3, none⟩ = some e := by
  simp [World.cell?, h]
/-- what take tells. -/
def Takes (D : List Int) (Ha Se : List Bool) (n : Nat) (r : Int) : Prop := (r = -1 ∧ NU D Ha Se n) ∨ ∃ (v : Nat) (k : Int), r = (v : Int) ∧ LU D Ha Se n v k
theorem NU.next {D : List Int} {Ha Se : List Bool} {i : Nat} (h : NU D Ha Se i) (hn : ∀ j, ¬ opn D Ha Se i j) : NU D Ha Se (i + 1) := fun u j hu ho => by
  rcases Nat.lt_or_ge u i with hlt | hge
  · exact h u j hlt ho
  · obtain rfl : u = i := by omega
    exact hn j ho
theorem LU.skip {D : List Int} {Ha Se : List Bool} {i v : Nat} {k : Int} (h : LU D Ha Se i v k) (hn : ∀ j, opn D Ha Se i j → k ≤ j) : LU D Ha Se (i + 1) v k := ⟨by have := h.1; omega, h.2.1, fun u j hu ho => by
  rcases Nat.lt_or_ge u i with hlt | hge
  · exact h.2.2 u j hlt ho
  · obtain rfl : u = i := by omega
    have h1 := hn j ho
    have h2 := h.1
    omega⟩
theorem LU.first {D : List Int} {Ha Se : List Bool} {i : Nat} {k : Int} (h : NU D Ha Se i) (ho : opn D Ha Se i k) : LU D Ha Se (i + 1) i k := ⟨by omega, ho, fun u j hu hj => by
  rcases Nat.lt_or_ge u i with hlt | hge
  · exact absurd hj (h u j hlt)
  · obtain rfl : u = i := by omega
    have h1 := ho.1
    rw [hj.1] at h1
    cases h1
    omega⟩
theorem LU.take {D : List Int} {Ha Se : List Bool} {i v : Nat} {k x : Int} (h : LU D Ha Se i v k) (ho : opn D Ha Se i x) (hlt : x < k) : LU D Ha Se (i + 1) i x := ⟨by omega, ho, fun u j hu hj => by
  rcases Nat.lt_or_ge u i with hl | hge
  · have := h.2.2 u j hl hj
    omega
  · obtain rfl : u = i := by omega
    have h1 := ho.1
    rw [hj.1] at h1
    cases h1
    omega⟩

set_option maxRecDepth 100000 in
set_option maxHeartbeats 4000000 in
theorem take_calls (n db kb hb sb dc kc hc sc : Nat) (D : List Int) (Ha Se : List Bool) (w : World) (hD : U64s w db D) (hH : Bools w hb Ha) (hS : Bools w sb Se) (lD : D.length = n) (lH : Ha.length = n) (lS : Se.length = n) (hn : n ≤ 65536) :
    Calls Tryd.prog 64 #[.agg #[.slice (some ⟨db, 0, none⟩) n dc, .slice (some ⟨kb, 0, none⟩) n kc, .slice (some ⟨hb, 0, none⟩) n hc, .slice (some ⟨sb, 0, none⟩) n sc]] w fun e w' => (∃ r, e = .returned (.int .i64 r) ∧ Takes D Ha Se n r) ∧ Below w.heap.size w w' := by
  obtain ⟨W0, hW0⟩ : ∃ W0, w.alloc (.cells #[.slice (some ⟨db, 0, none⟩) n dc, .slice (some ⟨kb, 0, none⟩) n kc, .slice (some ⟨hb, 0, none⟩) n hc, .slice (some ⟨sb, 0, none⟩) n sc] 101) = W0 := ⟨_, rfl⟩
  have HW0 : Hid (w.alloc (.cells #[.slice (some ⟨db, 0, none⟩) n dc, .slice (some ⟨kb, 0, none⟩) n kc, .slice (some ⟨hb, 0, none⟩) n hc, .slice (some ⟨sb, 0, none⟩) n sc] 101) = W0) := hW0
  have hB0 : Below w.heap.size w W0 := by rw [← hW0]; exact (Below.refl _ w).alloc (Nat.le_refl _) _
  have hbx : W0.heap[w.heap.size]? = some (.cells #[.slice (some ⟨db, 0, none⟩) n dc, .slice (some ⟨kb, 0, none⟩) n kc, .slice (some ⟨hb, 0, none⟩) n hc, .slice (some ⟨sb, 0, none⟩) n sc] 101) := by rw [← hW0]; exact heap_new _ _
  have HK : Hid (∀ wx, Below W0.heap.size W0 wx → (wx.cell? ⟨w.heap.size, 0, none⟩ = some (.slice (some ⟨db, 0, none⟩) n dc) ∧ wx.cell? ⟨w.heap.size, 1, none⟩ = some (.slice (some ⟨kb, 0, none⟩) n kc) ∧ wx.cell? ⟨w.heap.size, 2, none⟩ = some (.slice (some ⟨hb, 0, none⟩) n hc) ∧ wx.cell? ⟨w.heap.size, 3, none⟩ = some (.slice (some ⟨sb, 0, none⟩) n sc)) ∧ w.heap.size < wx.heap.size ∧ Below w.heap.size w wx ∧ U64s wx db D ∧ Bools wx hb Ha ∧ Bools wx sb Se) := fun wx hwx => by
    have hg := (hwx.block _ (lt_of_get hbx)).trans hbx
    have hb' := hB0.trans (hwx.mono hB0.size)
    exact ⟨box4 hg, lt_of_get hg, hb', (hb'.block _ (lt_of_get hD)).trans hD, (hb'.block _ (lt_of_get hH)).trans hH, (hb'.block _ (lt_of_get hS)).trans hS⟩
  obtain ⟨⟨c0, c1, c2, c3⟩, cs, _⟩ := HK.out W0 (Below.refl _ _)
  have HL : Hid (D.length = n ∧ Ha.length = n ∧ Se.length = n) := ⟨lD, lH, lS⟩
  clear hW0 hB0 hbx hD hH hS lD lH lS
  go_enter Tryd.func64, Tryd.ntmps64
  go_wp2_with fail
  rw [HW0.out]
  clear c0 c1 c2 c3 cs
  go_loopw [3, 8] (fun av iv' wr => ∃ (i : Nat) (r : Int), i ≤ n ∧ iv' = .int .i64 i ∧ av = .int .i64 r ∧ Takes D Ha Se i r ∧ Below W0.heap.size W0 wr) (fun _ iv' _ => n - (intOf iv').toNat)
  case atStart => exact ⟨0, -1, Nat.zero_le _, rfl, rfl, Or.inl ⟨rfl, fun u j hu => by omega⟩, Below.refl _ _⟩
  case round =>
    obtain ⟨i, r, hi, rfl, rfl, hT, hb'⟩ := hrel
    have HB : Hid (Below W0.heap.size W0 wr) := hb'
    have HT : Hid (Takes D Ha Se i r) := hT
    obtain ⟨⟨c0, c1, c2, c3⟩, cs, hbw, uD, uH, uS⟩ := HK.out wr hb'
    have HBW : Hid (Below w.heap.size w wr) := hbw
    clear hb' hT hbw
    by_cases hlt : i < n
    · obtain ⟨x, hx⟩ : ∃ x, D[i]? = some x := ⟨D[i]'(by rw [HL.out.1]; exact hlt), List.getElem?_eq_getElem _⟩
      obtain ⟨a, ha⟩ : ∃ a, Ha[i]? = some a := ⟨Ha[i]'(by rw [HL.out.2.1]; exact hlt), List.getElem?_eq_getElem _⟩
      obtain ⟨b, hb1⟩ : ∃ b, Se[i]? = some b := ⟨Se[i]'(by rw [HL.out.2.2]; exact hlt), List.getElem?_eq_getElem _⟩
      obtain ⟨q0, l0, _⟩ := uD.at hx
      obtain ⟨q1, l1, _⟩ := uH.at ha
      obtain ⟨q2, l2, _⟩ := uS.at hb1
      have HX : Hid (D[i]? = some x ∧ Ha[i]? = some a ∧ Se[i]? = some b) := ⟨hx, ha, hb1⟩
      have i1 : (i : Int) < (n : Int) := by omega
      have i2 : (0 : Int) ≤ (i : Int) := by omega
      have HNO : Hid (¬ (a = true ∧ b = false) → Takes D Ha Se (i + 1) r) := fun hno => by
        have hn' : ∀ j, ¬ opn D Ha Se i j := fun j ⟨_, o2, o3⟩ => hno ⟨by rw [ha] at o2; exact Option.some.inj o2, by rw [hb1] at o3; exact Option.some.inj o3⟩
        rcases HT.out with ⟨h1, h2⟩ | ⟨v, k, h1, h2⟩
        · exact Or.inl ⟨h1, h2.next hn'⟩
        · exact Or.inr ⟨v, k, h1, h2.skip fun j ho => absurd ho (hn' j)⟩
      cases a with
      | false =>
        clear hx ha hb1 uD uH uS
        go_wp2_with fail
        go_quiet (fail)
        have HB4 : Hid (Below W0.heap.size W0 (wr.drewN nq)) := below_drewN HB.out nq
        go_wp2
        go_roundw
        case rel => exact ⟨i + 1, r, by omega, by go_num, rfl, HNO.out (by simp), HB4.out⟩
        case measure => simp [intOf]; omega
      | true =>
        cases b with
        | true =>
          clear hx ha hb1 uD uH uS
          go_wp2_with fail
          go_quiet (fail)
          have HB4 : Hid (Below W0.heap.size W0 (wr.drewN nq)) := below_drewN HB.out nq
          go_wp2
          go_roundw
          case rel => exact ⟨i + 1, r, by omega, by go_num, rfl, HNO.out (by simp), HB4.out⟩
          case measure => simp [intOf]; omega
        | false =>
          rcases HT.out with ⟨h1, h2⟩ | ⟨v, k, h1, h2⟩
          · have HF : Hid (Takes D Ha Se (i + 1) (i : Int)) := Or.inr ⟨i, x, rfl, LU.first h2 ⟨hx, ha, hb1⟩⟩
            subst h1
            clear hx ha hb1 uD uH uS h2
            go_wp2_with fail
            go_quiet (fail)
            have HB4 : Hid (Below W0.heap.size W0 (wr.drewN nq)) := below_drewN HB.out nq
            go_wp2
            go_roundw
            case rel => exact ⟨i + 1, (i : Int), by omega, by go_num, rfl, HF.out, HB4.out⟩
            case measure => simp [intOf]; omega
          · have HV : Hid (LU D Ha Se i v k) := h2
            obtain ⟨q3, _, _⟩ := uD.at h2.2.1.1
            have hvi := h2.1
            have j1 : (v : Int) < (n : Int) := by omega
            have j2 : (0 : Int) ≤ (v : Int) := by omega
            have j3 : ¬ (v : Int) < 0 := by omega
            subst h1
            by_cases hxk : x < k
            · have HF : Hid (Takes D Ha Se (i + 1) (i : Int)) := Or.inr ⟨i, x, rfl, h2.take ⟨hx, ha, hb1⟩ hxk⟩
              clear hx ha hb1 uD uH uS h2
              go_wp2_with fail
              go_quiet (fail)
              have HB4 : Hid (Below W0.heap.size W0 (wr.drewN nq)) := below_drewN HB.out nq
              go_wp2
              go_roundw
              case rel => exact ⟨i + 1, (i : Int), by omega, by go_num, rfl, HF.out, HB4.out⟩
              case measure => simp [intOf]; omega
            · have HF : Hid (Takes D Ha Se (i + 1) (v : Int)) := Or.inr ⟨v, k, rfl, h2.skip fun j ho => by
                have h3 := ho.1
                rw [hx] at h3
                cases h3
                omega⟩
              clear hx ha hb1 uD uH uS h2
              go_wp2_with fail
              go_quiet (fail)
              have HB4 : Hid (Below W0.heap.size W0 (wr.drewN nq)) := below_drewN HB.out nq
              go_wp2
              go_roundw
              case rel => exact ⟨i + 1, (v : Int), by omega, by go_num, rfl, HF.out, HB4.out⟩
              case measure => simp [intOf]; omega
    · obtain rfl : i = n := by omega
      clear uD uH uS c0 c1 c2 c3 cs
      go_wp2
      go_ret
      exact ⟨⟨r, rfl, HT.out⟩, HBW.out⟩
end Go.Proofs.YtnkfggccahohpaaDoor

namespace Go.Proofs.YtnkfggccahohpaaDoor

theorem steps_det {n : Nat} {zs : List (Int × Int × Int)} {hb mo : Int} {S0 : FS} : ∀ (t : Nat) (S S' : FS), Steps n zs hb mo S0 t S → Steps n zs hb mo S0 t S' → S = S'
  | 0, S, S', h, h' => h.trans h'.symm
  | t + 1, S, S', ⟨S1, v, k, h1, h2, _, h4⟩, ⟨S1', v', k', h1', h2', _, h4'⟩ => by
    obtain rfl := steps_det t S1 S1' h1 h1'
    obtain ⟨rfl, rfl⟩ := least_unique h2 h2'
    rw [h4, h4']
theorem steps_prefix {n : Nat} {zs : List (Int × Int × Int)} {hb mo : Int} {S0 : FS} : ∀ (m t : Nat) (S : FS), Steps n zs hb mo S0 (t + m + 1) S → ∃ S1 v k, Steps n zs hb mo S0 t S1 ∧ Hp.Least n S1.f v k ∧ k ≤ mo
  | 0, _, _, ⟨S1, v, k, h1, h2, h3, _⟩ => ⟨S1, v, k, h1, h2, h3⟩
  | m + 1, t, _, ⟨S1, _, _, h1, _, _, _⟩ => steps_prefix m t S1 h1
theorem run_short {n : Nat} {zs : List (Int × Int × Int)} {hb se mo : Int} {S0 : FS} {t t' : Nat} {S S' : FS} (h : Steps n zs hb mo S0 t S) (e : RunEnd n se mo t S) (h' : Steps n zs hb mo S0 t' S') (e' : RunEnd n se mo t' S') (hlt : t < t') : False := by
  obtain ⟨m, rfl⟩ : ∃ m, t' = t + m + 1 := ⟨t' - t - 1, by omega⟩
  obtain ⟨S1, v, k, h1, h2, h3⟩ := steps_prefix m t S' h'
  obtain rfl := steps_det t S S1 h h1
  have hb' : (((t + m + 1 : Nat) : Int) = 0 ∨ ((t + m + 1 : Nat) : Int) ≤ se) := by
    rcases e' with ⟨_, q⟩ | ⟨_, q⟩ | ⟨_, _, _, _, q⟩
    · rcases q with q | q
      · omega
      · exact Or.inr q
    · rcases q with q | q
      · omega
      · exact Or.inr q
    · rcases q with q | q
      · omega
      · exact Or.inr q
  rcases e with ⟨q, _⟩ | ⟨q, _⟩ | ⟨v2, k2, q1, q2, _⟩
  · omega
  · have := q v h2.1
    rw [h2.2.1] at this
    cases this
  · obtain ⟨_, rfl⟩ := least_unique h2 q1
    omega
/-- however it is told, a bounded search from one beginning ends at one state. -/
theorem run_unique {n : Nat} {zs : List (Int × Int × Int)} {hb se mo : Int} {S0 : FS} {t t' : Nat} {S S' : FS} (h : Steps n zs hb mo S0 t S) (e : RunEnd n se mo t S) (h' : Steps n zs hb mo S0 t' S') (e' : RunEnd n se mo t' S') : t = t' ∧ S = S' := by
  rcases Nat.lt_trichotomy t t' with hlt | rfl | hlt
  · exact (run_short h e h' e' hlt).elim
  · exact ⟨rfl, steps_det t S S' h h'⟩
  · exact (run_short h' e' h e hlt).elim
end Go.Proofs.YtnkfggccahohpaaDoor

namespace Go.Proofs.YtnkfggccahohpaaDoor

/-- the reference's lists tell what the finder knows. -/
structure RR (n : Nat) (S : FS) (D K : List Int) (Ha Se : List Bool) : Prop where
  lD : D.length = n
  lK : K.length = n
  lH : Ha.length = n
  lS : Se.length = n
  lv : S.vs.length = n
  some' : ∀ (v : Nat) (d : Int), S.vs[v]? = some (some d) → D[v]? = some d ∧ K[v]? = some (S.hs v) ∧ Ha[v]? = some true ∧ Se[v]? = some (S.f (v : Int)).isNone
  none' : ∀ (v : Nat), S.vs[v]? = some none → Ha[v]? = some false ∧ Se[v]? = some false
theorem RR.opn {n : Nat} {S : FS} {D K : List Int} {Ha Se : List Bool} (h : RR n S D K Ha Se) (ho : ∀ (v : Nat) (k : Int), v < n → S.f (v : Int) = some k → S.vs[v]? = some (some k)) {u : Nat} {j : Int} (hu : u < n) : opn D Ha Se u j ↔ S.f (u : Int) = some j := by
  obtain ⟨o, hv⟩ : ∃ o, S.vs[u]? = some o := ⟨S.vs[u]'(by rw [h.lv]; exact hu), List.getElem?_eq_getElem _⟩
  constructor
  · rintro ⟨h1, h2, h3⟩
    cases o with
    | none =>
      have := (h.none' u hv).1
      rw [h2] at this
      cases this
    | some d =>
      obtain ⟨g1, _, _, g4⟩ := h.some' u d hv
      rw [h3] at g4
      cases hf : S.f (u : Int) with
      | none => rw [hf] at g4; cases g4
      | some k =>
        have := ho u k hu hf
        rw [hv] at this
        cases this
        rw [h1] at g1
        cases g1
        rfl
  · intro hf
    have hs := ho u j hu hf
    obtain ⟨g1, _, g3, g4⟩ := h.some' u j hs
    rw [hf] at g4
    exact ⟨g1, g3, g4⟩
/-- what take tells is the least of the heap. -/
theorem RR.takes {n : Nat} {S : FS} {D K : List Int} {Ha Se : List Bool} (h : RR n S D K Ha Se) (ho : ∀ (v : Nat) (k : Int), v < n → S.f (v : Int) = some k → S.vs[v]? = some (some k)) {r : Int} (ht : Takes D Ha Se n r) : (r = -1 ∧ ∀ d : Nat, d < n → S.f (d : Int) = none) ∨ ∃ (v : Nat) (k : Int), r = (v : Int) ∧ Hp.Least n S.f v k := by
  rcases ht with ⟨h1, h2⟩ | ⟨v, k, h1, h2, h3, h4⟩
  · refine Or.inl ⟨h1, fun d hd => ?_⟩
    cases hf : S.f (d : Int) with
    | none => rfl
    | some j => exact absurd ((h.opn ho hd).2 hf) (h2 d j hd)
  · refine Or.inr ⟨v, k, h1, h2, (h.opn ho h2).1 h3, fun e j he hj hlt => ?_⟩
    have := h4 e j he ((h.opn ho he).2 hj)
    unfold Hp.ltT at hlt
    simp only at hlt
    omega
/-- a node is settled. -/
theorem RR.pop {n : Nat} {S : FS} {D K : List Int} {Ha Se : List Bool} (h : RR n S D K Ha Se) {v : Nat} {d : Int} (hv : S.vs[v]? = some (some d)) : RR n (S.pop v) D K Ha (Se.set v true) := by
  have hl := (List.getElem?_eq_some_iff.1 hv).1
  refine ⟨h.lD, h.lK, h.lH, by rw [List.length_set]; exact h.lS, h.lv, fun u e hu => ?_, fun u hu => ?_⟩
  · obtain ⟨g1, g2, g3, g4⟩ := h.some' u e hu
    refine ⟨g1, g2, g3, ?_⟩
    show (Se.set v true)[u]? = some (Hp.upd S.f (v : Int) none (u : Int)).isNone
    rw [List.getElem?_set]
    by_cases e2 : v = u
    · subst e2
      rw [if_pos rfl, if_pos (by rw [h.lS, ← h.lv]; exact hl)]
      simp [Hp.upd]
    · rw [if_neg e2, g4]
      have : (u : Int) ≠ (v : Int) := by omega
      simp [Hp.upd, this]
  · obtain ⟨g1, g2⟩ := h.none' u hu
    refine ⟨g1, ?_⟩
    rw [List.getElem?_set]
    by_cases e2 : v = u
    · subst e2
      have hu' : S.vs[v]? = some none := hu
      rw [hv] at hu'
      cases hu'
    · rw [if_neg e2]
      exact g2
/-- a label is laid. -/
theorem RR.lab {n : Nat} {S : FS} {D K : List Int} {Ha Se : List Bool} (h : RR n S D K Ha Se) {x : Nat} (hx : x < n) (d hp ah : Int) (hse : Se[x]? = some false) : RR n (S.lab x d hp ah) (D.set x d) (K.set x hp) (Ha.set x true) Se := by
  refine ⟨by rw [List.length_set]; exact h.lD, by rw [List.length_set]; exact h.lK, by rw [List.length_set]; exact h.lH, h.lS, by show (S.vs.set x (some d)).length = n; rw [List.length_set]; exact h.lv, fun u e hu => ?_, fun u hu => ?_⟩
  · have hu' : (S.vs.set x (some d))[u]? = some (some e) := hu
    show (D.set x d)[u]? = some e ∧ (K.set x hp)[u]? = some (if u = x then hp else S.hs u) ∧ (Ha.set x true)[u]? = some true ∧ Se[u]? = some (Hp.upd S.f (x : Int) (some d) (u : Int)).isNone
    rw [List.getElem?_set] at hu'
    rw [List.getElem?_set, List.getElem?_set, List.getElem?_set]
    by_cases e2 : x = u
    · subst e2
      rw [if_pos rfl, if_pos (by rw [h.lv]; exact hx)] at hu'
      cases hu'
      rw [if_pos rfl, if_pos rfl, if_pos rfl, if_pos rfl, if_pos (by rw [h.lD]; exact hx), if_pos (by rw [h.lK]; exact hx), if_pos (by rw [h.lH]; exact hx)]
      exact ⟨rfl, rfl, rfl, by rw [hse]; simp [Hp.upd]⟩
    · rw [if_neg e2] at hu'
      obtain ⟨g1, g2, g3, g4⟩ := h.some' u e hu'
      have hne : (u : Int) ≠ (x : Int) := by omega
      rw [if_neg e2, if_neg e2, if_neg e2, if_neg (fun e => e2 e.symm)]
      exact ⟨g1, g2, g3, by rw [g4]; simp [Hp.upd, hne]⟩
  · have hu' : (S.vs.set x (some d))[u]? = some none := hu
    rw [List.getElem?_set] at hu'
    rw [List.getElem?_set]
    by_cases e2 : x = u
    · subst e2
      rw [if_pos rfl, if_pos (by rw [h.lv]; exact hx)] at hu'
      cases hu'
    · rw [if_neg e2] at hu' ⊢
      exact h.none' u hu'
end Go.Proofs.YtnkfggccahohpaaDoor

namespace Go.Proofs.YtnkfggccahohpaaDoor

/-- what holds while the arcs of a settled node are looked at, as far as the reference asks. -/
structure LI (n v : Nat) (k h : Int) (S : FS) : Prop where
  lv : S.vs.length = n
  low : ∀ (u : Nat) (d : Int), S.vs[u]? = some (some d) → S.f (u : Int) = none → d ≤ k
  me : S.vs[v]? = some (some k) ∧ S.f (v : Int) = none ∧ S.hs v = h
theorem LI.start {n : Nat} {zs : List (Int × Int × Int)} {hb : Int} {s t : Nat} {S : FS} (hI : SInv n zs hb s t S) {v : Nat} {k : Int} (hL : Hp.Least n S.f v k) : LI n v k (S.hs v) (S.pop v) := by
  obtain ⟨hv, hf, hmin⟩ := hL
  have hme := hI.opn v k hv hf
  have hup : ∀ u : Nat, Hp.upd S.f v none (u : Int) = if u = v then none else S.f (u : Int) := fun u => by
    unfold Hp.upd
    by_cases e : u = v
    · rw [if_pos (by omega), if_pos e]
    · rw [if_neg (by omega), if_neg e]
  refine ⟨hI.lv, fun u d hd h => ?_, hme, by show Hp.upd S.f v none (v : Int) = none; rw [hup, if_pos rfl], rfl⟩
  have h' : Hp.upd S.f v none (u : Int) = none := h
  rw [hup] at h'
  have hd' : S.vs[u]? = some (some d) := hd
  by_cases e : u = v
  · subst e
    rw [hme] at hd'
    cases hd'
    exact Int.le_refl _
  · rw [if_neg e] at h'
    exact hI.mono u d v k hd' h' hv hf
theorem LI.next {n v : Nat} {k h : Int} {S : FS} (h0 : LI n v k h S) {a : Int × Int × Int} (hxv : a.2.1.toNat ≠ v) : LI n v k h (relax1 v k h S a) := by
  unfold relax1
  split
  · obtain ⟨x, hx⟩ : ∃ x, a.2.1.toNat = x := ⟨_, rfl⟩
    obtain ⟨d', hd'⟩ : ∃ d', k + a.2.2 = d' := ⟨_, rfl⟩
    rw [hx] at hxv ⊢
    rw [hd']
    refine ⟨by show (S.vs.set x (some d')).length = n; rw [List.length_set]; exact h0.lv, fun u d hd hf => ?_, ?_, ?_, ?_⟩
    · have hd2 : (S.vs.set x (some d'))[u]? = some (some d) := hd
      have hf2 : Hp.upd S.f (x : Int) (some d') (u : Int) = none := hf
      rcases set_get hd2 with ⟨e, _⟩ | ⟨hne, h2⟩
      · subst e
        simp [Hp.upd] at hf2
      · have : (u : Int) ≠ (x : Int) := by omega
        simp [Hp.upd, this] at hf2
        exact h0.low u d h2 hf2
    · show (S.vs.set x (some d'))[v]? = some (some k)
      rw [List.getElem?_set, if_neg hxv]
      exact h0.me.1
    · show Hp.upd S.f (x : Int) (some d') (v : Int) = none
      have : (v : Int) ≠ (x : Int) := by omega
      simp [Hp.upd, this]
      exact h0.me.2.1
    · show (if v = x then h + 1 else S.hs v) = h
      rw [if_neg (Ne.symm hxv)]
      exact h0.me.2.2
  · exact h0
/-- both ask the same. -/
theorem LI.better {n v : Nat} {k h : Int} {S : FS} (h0 : LI n v k h S) {D K : List Int} {Ha Se : List Bool} (hR : RR n S D K Ha Se) {x : Nat} {dx : Int} {hx sx : Bool} (h1 : D[x]? = some dx) (h2 : Ha[x]? = some hx) (h3 : Se[x]? = some sx) {r : Int} (hr : 0 ≤ r) : S.better x (k + r) = (!sx && (!hx || decide (k + r < dx))) := by
  obtain ⟨o, ho⟩ : ∃ o, S.vs[x]? = some o := ⟨S.vs[x]'(by rw [hR.lv, ← hR.lD]; exact (List.getElem?_eq_some_iff.1 h1).1), List.getElem?_eq_getElem _⟩
  unfold FS.better
  rw [ho]
  cases o with
  | none =>
    obtain ⟨g1, g2⟩ := hR.none' x ho
    rw [h2] at g1
    rw [h3] at g2
    cases g1
    cases g2
    rfl
  | some e =>
    obtain ⟨g1, _, g3, g4⟩ := hR.some' x e ho
    rw [h1] at g1
    rw [h2] at g3
    rw [h3] at g4
    cases g1
    cases g3
    cases g4
    cases hf : S.f (x : Int) with
    | none =>
      have := h0.low x dx ho hf
      simp
      omega
    | some j => simp
theorem RR.skip {n : Nat} {S : FS} {D K : List Int} {Ha Se : List Bool} (hR : RR n S D K Ha Se) {v x : Nat} {k h r : Int} {a : Int × Int × Int} (ha : a.2.1 = (x : Int)) (hr : a.2.2 = r) (hb : S.better x (k + r) = false) : RR n (relax1 v k h S a) D K Ha Se := by
  unfold relax1
  rw [ha, hr, Int.toNat_natCast, hb]
  exact hR
theorem RR.put {n : Nat} {S : FS} {D K : List Int} {Ha Se : List Bool} (hR : RR n S D K Ha Se) {v x : Nat} {k h r : Int} {a : Int × Int × Int} (ha : a.2.1 = (x : Int)) (hr : a.2.2 = r) (hx : x < n) (hse : Se[x]? = some false) (hb : S.better x (k + r) = true) : RR n (relax1 v k h S a) (D.set x (k + r)) (K.set x (h + 1)) (Ha.set x true) Se := by
  unfold relax1
  rw [ha, hr, Int.toNat_natCast, hb]
  exact hR.lab hx _ _ _ hse
theorem rep_getD {α : Type} {n u : Nat} {a b : α} (h : (List.replicate n a)[u]? = some b) : b = a := by
  rw [List.getElem?_replicate] at h
  split at h
  · exact (Option.some.inj h).symm
  · cases h
/-- how both begin. -/
theorem RR.begin {n s : Nat} (hs : s < n) (S0 : FS) : RR n (S0.begin n s) (List.replicate n 0) (List.replicate n 0) ((List.replicate n false).set s true) (List.replicate n false) := by
  have h0 : RR n (⟨List.replicate n none, S0.hs, S0.ah, fun _ => none⟩ : FS) (List.replicate n 0) (List.replicate n 0) (List.replicate n false) (List.replicate n false) := by
    refine ⟨by simp, by simp, by simp, by simp, by simp, fun v d hv => ?_, fun v hv => ?_⟩
    · have hv' : (List.replicate n (none : Option Int))[v]? = some (some d) := hv
      have := rep_getD hv'
      cases this
    · have hv' : (List.replicate n (none : Option Int))[v]? = some none := hv
      have hl : v < n := by simpa using (List.getElem?_eq_some_iff.1 hv').1
      simp [hl]
  have h1 := h0.lab hs 0 0 (s : Int) (by simp [hs])
  have e : (List.replicate n (0 : Int)).set s 0 = List.replicate n 0 := by
    apply List.ext_getElem?
    intro i
    rw [List.getElem?_set]
    by_cases e : s = i
    · subst e
      rw [if_pos rfl, if_pos (by simpa using hs)]
      simp [hs]
    · rw [if_neg e]
  rw [e] at h1
  exact h1
end Go.Proofs.YtnkfggccahohpaaDoor

namespace Go.Proofs.YtnkfggccahohpaaDoor
open Go.RowKit Go.Extern

/-- a row of numbers. -/
def IRow (w : World) (b : Nat) (l : List Int) : Prop := w.heap[b]? = some (.cells (l.map (Value.int .i64)).toArray 3)
theorem IRow.at {w : World} {b : Nat} {l : List Int} (h : IRow w b l) {k : Nat} {x : Int} (hk : l[k]? = some x) : w.cell? ⟨b, k, none⟩ = some (.int .i64 x) ∧ b < w.heap.size ∧ w.frozen? ⟨b, k, none⟩ = false := by
  refine ⟨?_, lt_of_get h, ?_⟩
  · simp [World.cell?, show w.heap[b]? = _ from h, hk]
  · simp [World.frozen?, show w.heap[b]? = _ from h]
theorem IRow.set {w : World} {b : Nat} {D : List Int} (h : IRow w b D) (k : Nat) (x : Int) : IRow (w.setCell ⟨b, k, none⟩ (.int .i64 x)) b (D.set k x) := by
  unfold IRow
  rw [Go.heap_setCell_same _ _ k _ _ _ h]
  congr 2
  rw [List.setIfInBounds_toArray, List.map_set]
theorem Bools.set {w : World} {b : Nat} {D : List Bool} (h : Bools w b D) (k : Nat) (x : Bool) : Bools (w.setCell ⟨b, k, none⟩ (.bool x)) b (D.set k x) := by
  unfold Bools
  rw [Go.heap_setCell_same _ _ k _ _ _ h]
  congr 2
  rw [List.setIfInBounds_toArray, List.map_set]
theorem made_list (z : Value) (n : Nat) : madeCells #[z] n = (List.replicate n z).toArray := by
  apply Array.ext'
  rw [toList_madeCells_one z n]
theorem made_ints {w : World} {b n : Nat} (h : w.heap[b]? = some (.cells (madeCells #[.int .i64 0] n) 3)) : IRow w b (List.replicate n 0) := by
  unfold IRow
  rw [h, made_list]
  simp
theorem made_u64s' {w : World} {b n : Nat} (h : w.heap[b]? = some (.cells (madeCells #[.int .u64 0] n) 48)) : U64s w b (List.replicate n 0) := by
  unfold U64s
  rw [h, made_list]
  simp
theorem made_bools {w : World} {b n : Nat} (h : w.heap[b]? = some (.cells (madeCells #[.bool false] n) 4)) : Bools w b (List.replicate n false) := by
  unfold Bools
  rw [h, made_list]
  simp
/-- the lists of a search in memory. -/
structure RI (B n : Nat) (w : World) (bx db kb hb sb : Nat) (D K : List Int) (Ha Se : List Bool) : Prop where
  box : w.heap[bx]? = some (.cells #[.slice (some ⟨db, 0, none⟩) n n, .slice (some ⟨kb, 0, none⟩) n n, .slice (some ⟨hb, 0, none⟩) n n, .slice (some ⟨sb, 0, none⟩) n n] 101)
  d : U64s w db D
  k : IRow w kb K
  h : Bools w hb Ha
  s : Bools w sb Se
  low : B ≤ bx ∧ B ≤ db ∧ B ≤ kb ∧ B ≤ hb ∧ B ≤ sb
  ne : bx ≠ db ∧ bx ≠ kb ∧ bx ≠ hb ∧ bx ≠ sb ∧ db ≠ kb ∧ db ≠ hb ∧ db ≠ sb ∧ kb ≠ hb ∧ kb ≠ sb ∧ hb ≠ sb
section
variable {B n : Nat} {w w' : World} {bx db kb hb sb : Nat} {D K : List Int} {Ha Se : List Bool}
theorem RI.keep (r : RI B n w bx db kb hb sb D K Ha Se) (hb' : Below w.heap.size w w') : RI B n w' bx db kb hb sb D K Ha Se :=
  ⟨(hb'.block _ (lt_of_get r.box)).trans r.box, (hb'.block _ (lt_of_get r.d)).trans r.d, (hb'.block _ (lt_of_get r.k)).trans r.k, (hb'.block _ (lt_of_get r.h)).trans r.h, (hb'.block _ (lt_of_get r.s)).trans r.s, r.low, r.ne⟩
theorem RI.setD (r : RI B n w bx db kb hb sb D K Ha Se) (x : Nat) (y : Int) : RI B n (w.setCell ⟨db, x, none⟩ (.int .u64 y)) bx db kb hb sb (D.set x y) K Ha Se := by
  obtain ⟨n1, n2, n3, n4, n5, n6, n7, n8, n9, n0⟩ := r.ne
  exact ⟨(heap_setCell_other _ _ _ _ n1).trans r.box, r.d.set x y, (heap_setCell_other _ _ _ _ (Ne.symm n5)).trans r.k, (heap_setCell_other _ _ _ _ (Ne.symm n6)).trans r.h, (heap_setCell_other _ _ _ _ (Ne.symm n7)).trans r.s, r.low, r.ne⟩
theorem RI.setK (r : RI B n w bx db kb hb sb D K Ha Se) (x : Nat) (y : Int) : RI B n (w.setCell ⟨kb, x, none⟩ (.int .i64 y)) bx db kb hb sb D (K.set x y) Ha Se := by
  obtain ⟨n1, n2, n3, n4, n5, n6, n7, n8, n9, n0⟩ := r.ne
  exact ⟨(heap_setCell_other _ _ _ _ n2).trans r.box, (heap_setCell_other _ _ _ _ n5).trans r.d, r.k.set x y, (heap_setCell_other _ _ _ _ (Ne.symm n8)).trans r.h, (heap_setCell_other _ _ _ _ (Ne.symm n9)).trans r.s, r.low, r.ne⟩
theorem RI.setH (r : RI B n w bx db kb hb sb D K Ha Se) (x : Nat) (y : Bool) : RI B n (w.setCell ⟨hb, x, none⟩ (.bool y)) bx db kb hb sb D K (Ha.set x y) Se := by
  obtain ⟨n1, n2, n3, n4, n5, n6, n7, n8, n9, n0⟩ := r.ne
  exact ⟨(heap_setCell_other _ _ _ _ n3).trans r.box, (heap_setCell_other _ _ _ _ n6).trans r.d, (heap_setCell_other _ _ _ _ n8).trans r.k, r.h.set x y, (heap_setCell_other _ _ _ _ (Ne.symm n0)).trans r.s, r.low, r.ne⟩
theorem RI.setS (r : RI B n w bx db kb hb sb D K Ha Se) (x : Nat) (y : Bool) : RI B n (w.setCell ⟨sb, x, none⟩ (.bool y)) bx db kb hb sb D K Ha (Se.set x y) := by
  obtain ⟨n1, n2, n3, n4, n5, n6, n7, n8, n9, n0⟩ := r.ne
  exact ⟨(heap_setCell_other _ _ _ _ n4).trans r.box, (heap_setCell_other _ _ _ _ n7).trans r.d, (heap_setCell_other _ _ _ _ n9).trans r.k, (heap_setCell_other _ _ _ _ n0).trans r.h, r.s.set x y, r.low, r.ne⟩
end
section
variable (w : World) (o0 o1 o2 o3 o4 : Obj)
theorem av4 : (((((w.alloc o0).alloc o1).alloc o2).alloc o3).alloc o4).heap[w.heap.size + 1 + 1 + 1 + 1]? = some o4 := by
  have h := heap_new ((((w.alloc o0).alloc o1).alloc o2).alloc o3) o4
  simpa using h
theorem av3 : (((((w.alloc o0).alloc o1).alloc o2).alloc o3).alloc o4).heap[w.heap.size + 1 + 1 + 1]? = some o3 := by
  have h := heap_new (((w.alloc o0).alloc o1).alloc o2) o3
  rw [Below.heap_alloc _ _ _ (by simp)]
  simpa using h
theorem av2 : (((((w.alloc o0).alloc o1).alloc o2).alloc o3).alloc o4).heap[w.heap.size + 1 + 1]? = some o2 := by
  have h := heap_new ((w.alloc o0).alloc o1) o2
  rw [Below.heap_alloc _ _ _ (by simp <;> omega), Below.heap_alloc _ _ _ (by simp)]
  simpa using h
theorem av1 : (((((w.alloc o0).alloc o1).alloc o2).alloc o3).alloc o4).heap[w.heap.size + 1]? = some o1 := by
  have h := heap_new (w.alloc o0) o1
  rw [Below.heap_alloc _ _ _ (by simp <;> omega), Below.heap_alloc _ _ _ (by simp <;> omega), Below.heap_alloc _ _ _ (by simp)]
  simpa using h
theorem av0 : (((((w.alloc o0).alloc o1).alloc o2).alloc o3).alloc o4).heap[w.heap.size]? = some o0 := by
  have h := heap_new w o0
  rw [Below.heap_alloc _ _ _ (by simp <;> omega), Below.heap_alloc _ _ _ (by simp <;> omega), Below.heap_alloc _ _ _ (by simp <;> omega), Below.heap_alloc _ _ _ (by simp)]
  exact h
theorem below5 : Below w.heap.size w (((((w.alloc o0).alloc o1).alloc o2).alloc o3).alloc o4) := ((((((Below.refl _ w).alloc (Nat.le_refl _) _).alloc (by simp) _).alloc (by simp <;> omega) _).alloc (by simp <;> omega) _).alloc (by simp <;> omega) _)
end
end Go.Proofs.YtnkfggccahohpaaDoor

namespace Go.Proofs.YtnkfggccahohpaaDoor
open Go.RowKit Go.Extern

attribute [local go_sem] Oper.semAt_some

/-- the arcs of a node, as the reference's search has them. -/
def arcsOf (zs : List (Int × Int × Int)) (v : Nat) : List (Int × Int × Int) := arcRow zs (firstAt zs v) (firstAt zs (v + 1))
theorem arcsOf_len (zs : List (Int × Int × Int)) (v : Nat) : (arcsOf zs v).length ≤ zs.length := by
  unfold arcsOf arcRow
  rw [List.length_drop, List.length_take]
  omega
def HalfIn (w : World) (o : Option Addr) (l : List (Int × Int × Int)) : Prop := ∀ (j : Nat) (a : Int × Int × Int), l[j]? = some a → ∃ b off, o = some ⟨b, off, none⟩ ∧ b < w.heap.size ∧ w.cell? ⟨b, off + j * 2, none⟩ = some (.int .i64 a.2.1) ∧ w.cell? ⟨b, off + j * 2 + 1, none⟩ = some (.int .u64 a.2.2)
structure RowsIn (w : World) (rb n : Nat) (zs : List (Int × Int × Int)) : Prop where
  lt : rb < w.heap.size
  row : ∀ v : Nat, v < n → ∃ o c, w.cell? ⟨rb, v, none⟩ = some (.slice o (arcsOf zs v).length c) ∧ HalfIn w o (arcsOf zs v)
theorem HalfIn.keep {w w' : World} {o : Option Addr} {l : List (Int × Int × Int)} (h : HalfIn w o l) (hb : Below w.heap.size w w') : HalfIn w' o l := fun j a ha => by
  obtain ⟨b, off, e, hl, h0, h1⟩ := h j a ha
  exact ⟨b, off, e, Nat.lt_of_lt_of_le hl hb.size, (hb.cell (p := ⟨b, _, none⟩) hl).trans h0, (hb.cell (p := ⟨b, _, none⟩) hl).trans h1⟩
theorem RowsIn.keep {w w' : World} {rb n : Nat} {zs : List (Int × Int × Int)} (h : RowsIn w rb n zs) (hb : Below w.heap.size w w') : RowsIn w' rb n zs := ⟨Nat.lt_of_lt_of_le h.lt hb.size, fun v hv => by
  obtain ⟨o, c, h0, h1⟩ := h.row v hv
  exact ⟨o, c, (hb.cell (p := ⟨rb, v, none⟩) h.lt).trans h0, h1.keep hb⟩⟩
theorem RR.leastOf {n : Nat} {S : FS} {D K : List Int} {Ha Se : List Bool} (h : RR n S D K Ha Se) (ho : ∀ (v : Nat) (k : Int), v < n → S.f (v : Int) = some k → S.vs[v]? = some (some k)) {v : Nat} {k : Int} (hL : LU D Ha Se n v k) : Hp.Least n S.f v k := by
  obtain ⟨h2, h3, h4⟩ := hL
  refine ⟨h2, (h.opn ho h2).1 h3, fun e j he hj hlt => ?_⟩
  have := h4 e j he ((h.opn ho he).2 hj)
  unfold Hp.ltT at hlt
  simp only at hlt
  omega
theorem RR.noneOf {n : Nat} {S : FS} {D K : List Int} {Ha Se : List Bool} (h : RR n S D K Ha Se) (ho : ∀ (v : Nat) (k : Int), v < n → S.f (v : Int) = some k → S.vs[v]? = some (some k)) (hN : NU D Ha Se n) : ∀ d : Nat, d < n → S.f (d : Int) = none := fun d hd => by
  cases hf : S.f (d : Int) with
  | none => rfl
  | some j => exact absurd ((h.opn ho hd).2 hf) (hN d j hd)
theorem ri_ex {w2 wr : World} {n bx db kb hb sb : Nat} {cv : Value} (e : cv = .pointer (some ⟨bx, 0, none⟩)) (c : wr.heap[bx]? = some (.cells #[.slice (some ⟨db, 0, none⟩) n n, .slice (some ⟨kb, 0, none⟩) n n, .slice (some ⟨hb, 0, none⟩) n n, .slice (some ⟨sb, 0, none⟩) n n] 101))
    (f : wr.heap[db]? = some (.cells (madeCells #[.int .u64 0] n) 48)) (t : wr.heap[kb]? = some (.cells (madeCells #[.int .i64 0] n) 3)) (v : wr.heap[hb]? = some (.cells (madeCells #[.bool false] n) 4)) (u : wr.heap[sb]? = some (.cells (madeCells #[.bool false] n) 4))
    (low : w2.heap.size ≤ bx ∧ w2.heap.size ≤ db ∧ w2.heap.size ≤ kb ∧ w2.heap.size ≤ hb ∧ w2.heap.size ≤ sb) (ne : bx ≠ db ∧ bx ≠ kb ∧ bx ≠ hb ∧ bx ≠ sb ∧ db ≠ kb ∧ db ≠ hb ∧ db ≠ sb ∧ kb ≠ hb ∧ kb ≠ sb ∧ hb ≠ sb) (b : Below w2.heap.size w2 wr) :
    ∃ bx db kb hb sb, cv = .pointer (some ⟨bx, 0, none⟩) ∧ RI w2.heap.size n wr bx db kb hb sb (List.replicate n 0) (List.replicate n 0) (List.replicate n false) (List.replicate n false) ∧ Below w2.heap.size w2 wr :=
  ⟨bx, db, kb, hb, sb, e, ⟨c, made_u64s' f, made_ints t, made_bools v, made_bools u, low, ne⟩, b⟩
/-- the lists are told: they are stored as the result. -/
def lay4 (W : World) (b : Nat) (c0 c1 c2 c3 : Value) : World := (((W.setCell ⟨b, 0, none⟩ c0).setCell ⟨b, 1, none⟩ c1).setCell ⟨b, 2, none⟩ c2).setCell ⟨b, 3, none⟩ c3
theorem lay4_far {W : World} {b : Nat} {c0 c1 c2 c3 : Value} {g : Nat} (hg : g ≠ b) : (lay4 W b c0 c1 c2 c3).heap[g]? = W.heap[g]? := (heap_setCell_other _ _ _ _ hg).trans ((heap_setCell_other _ _ _ _ hg).trans ((heap_setCell_other _ _ _ _ hg).trans (heap_setCell_other _ _ _ _ hg)))
theorem lay4_below {w W : World} {b : Nat} {c0 c1 c2 c3 : Value} (h : Below w.heap.size w W) (hb : w.heap.size ≤ b) : Below w.heap.size w (lay4 W b c0 c1 c2 c3) := (((h.setCell (p := ⟨b, 0, none⟩) hb _).setCell (p := ⟨b, 1, none⟩) hb _).setCell (p := ⟨b, 2, none⟩) hb _).setCell (p := ⟨b, 3, none⟩) hb _
theorem zero4 {w : World} {b : Nat} {a c d e : Value} {T : TypeId} (h : w.heap[b]? = some (.cells #[a, c, d, e] T)) : w.cell? ⟨b, 0, none⟩ = some a ∧ w.cell? ⟨b, 1, none⟩ = some c ∧ w.cell? ⟨b, 2, none⟩ = some d ∧ w.cell? ⟨b, 3, none⟩ = some e ∧ w.frozen? ⟨b, 0, none⟩ = false ∧ w.frozen? ⟨b, 1, none⟩ = false ∧ w.frozen? ⟨b, 2, none⟩ = false ∧ w.frozen? ⟨b, 3, none⟩ = false ∧ b < w.heap.size := by
  refine ⟨?_, ?_, ?_, ?_, ?_, ?_, ?_, ?_, lt_of_get h⟩ <;> simp [World.cell?, World.frozen?, h]
theorem RI.fin {B n : Nat} {w W0 wx : World} {bx db kb hb sb : Nat} {D K : List Int} {Ha Se : List Bool} (r : RI B n wx bx db kb hb sb D K Ha Se) (hB : w.heap.size + 1 ≤ B) (h0 : Below w.heap.size w W0) (h1 : Below B W0 wx) {c0 c1 c2 c3 : Value} : (U64s (lay4 wx w.heap.size c0 c1 c2 c3) db D ∧ IRow (lay4 wx w.heap.size c0 c1 c2 c3) kb K ∧ Bools (lay4 wx w.heap.size c0 c1 c2 c3) hb Ha ∧ Bools (lay4 wx w.heap.size c0 c1 c2 c3) sb Se) ∧ Below w.heap.size w (lay4 wx w.heap.size c0 c1 c2 c3) := by
  have hl := r.low
  exact ⟨⟨(lay4_far (by omega)).trans r.d, (lay4_far (by omega)).trans r.k, (lay4_far (by omega)).trans r.h, (lay4_far (by omega)).trans r.s⟩, lay4_below (h0.trans (h1.mono (by omega))) (Nat.le_refl _)⟩
theorem infoB : (Tryd.prog.info? 4).map (fun i => (i.zero, i.size, i.bytes)) = some (some (.bool false), 1, 1) := by kernel_rfl
end Go.Proofs.YtnkfggccahohpaaDoor

namespace Go.Proofs.YtnkfggccahohpaaDoor
open Go.RowKit Go.Extern

theorem lay4_box {W : World} {b : Nat} {c0 c1 c2 c3 x y z u : Value} {T : TypeId} (h : W.heap[b]? = some (.cells #[x, y, z, u] T)) : (lay4 W b c0 c1 c2 c3).heap[b]? = some (.cells #[c0, c1, c2, c3] T) :=
  Go.heap_setCell_same _ b 3 _ T c3 (Go.heap_setCell_same _ b 2 _ T c2 (Go.heap_setCell_same _ b 1 _ T c1 (Go.heap_setCell_same W b 0 _ T c0 h)))
theorem ri_ex5 {W0 w' : World} {n b1 b3 b5 b7 b9 : Nat} {x y z u : Value} (g1 : w'.heap[b1]? = some (.cells (madeCells #[.int .u64 0] n) 48)) (g3 : w'.heap[b3]? = some (.cells (madeCells #[.int .i64 0] n) 3)) (g5 : w'.heap[b5]? = some (.cells (madeCells #[.bool false] n) 4)) (g7 : w'.heap[b7]? = some (.cells (madeCells #[.bool false] n) 4)) (g9 : w'.heap[b9]? = some (.cells #[x, y, z, u] 101))
    (low : W0.heap.size ≤ b9 ∧ W0.heap.size ≤ b1 ∧ W0.heap.size ≤ b3 ∧ W0.heap.size ≤ b5 ∧ W0.heap.size ≤ b7) (ne : b9 ≠ b1 ∧ b9 ≠ b3 ∧ b9 ≠ b5 ∧ b9 ≠ b7 ∧ b1 ≠ b3 ∧ b1 ≠ b5 ∧ b1 ≠ b7 ∧ b3 ≠ b5 ∧ b3 ≠ b7 ∧ b5 ≠ b7) (hb : Below W0.heap.size W0 w') :
    ∃ bx db kb hb sb, (Value.pointer (some ⟨b9, 0, none⟩)) = .pointer (some ⟨bx, 0, none⟩) ∧ RI W0.heap.size n (lay4 w' b9 (.slice (some ⟨b1, 0, none⟩) n n) (.slice (some ⟨b3, 0, none⟩) n n) (.slice (some ⟨b5, 0, none⟩) n n) (.slice (some ⟨b7, 0, none⟩) n n)) bx db kb hb sb (List.replicate n 0) (List.replicate n 0) (List.replicate n false) (List.replicate n false) ∧ Below W0.heap.size W0 (lay4 w' b9 (.slice (some ⟨b1, 0, none⟩) n n) (.slice (some ⟨b3, 0, none⟩) n n) (.slice (some ⟨b5, 0, none⟩) n n) (.slice (some ⟨b7, 0, none⟩) n n)) := by
  obtain ⟨n1, n2, n3, n4, _⟩ := id ne
  exact ⟨b9, b1, b3, b5, b7, rfl, ⟨lay4_box g9, made_u64s' ((lay4_far (Ne.symm n1)).trans g1), made_ints ((lay4_far (Ne.symm n2)).trans g3), made_bools ((lay4_far (Ne.symm n3)).trans g5), made_bools ((lay4_far (Ne.symm n4)).trans g7), low, ne⟩, lay4_below hb low.1⟩

/-- an operation that lays a thing of its own: its place among the operations, itself, what it yields (by the block's number), and what it lays. -/
structure Lay where
  i : Nat
  o : Oper
  val : Nat → Value
  obj : Obj
section
variable {P : Program} {md : Region.Mode} {ops : Array Oper} {Q : Exit → Act → World → Prop} {S : World → Prop}
def LaysR (P : Program) (ops : Array Oper) (r : Lay) (a : Act) : Prop := Region.wanted r.o (yielded ops a.tmps) = true ∧ ∀ wx, (execOp a.eval r.o).run P wx = .ok (.value (r.val wx.heap.size)) (wx.alloc r.obj)
theorem LaysR.put {r : Lay} {oj : Oper} {a : Act} (h : LaysR P ops r a) (hap : oj.apart ops r.o = true) (hs : ∀ cs b, r.o.op ≠ .select cs b) (u : Value) : LaysR P ops r (a.put oj.dst u) := by
  obtain ⟨h1, h2, h3⟩ := Oper.apart_spec hap
  refine ⟨by rw [wanted_put r.o a oj.dst u h1]; exact h.1, fun wx => ?_⟩
  rw [execOp_put r.o hs a oj.dst u h1]
  exact h.2 wx
theorem LaysR.op {r : Lay} {a : Act} {w : World} {K : Act → World → Prop} (ho : ops[r.i]? = some r.o) (h : LaysR P ops r a) (hK : K (a.put r.o.dst (r.val w.heap.size)) (w.alloc r.obj)) : wpOp P ops Q r.i K a w := by
  unfold wpOp
  simp only [ho]
  rw [if_pos h.1]
  refine .inl ?_
  unfold Oper.wp
  rw [h.2 w]
  exact hK
/-- at each time just those that are left may come up. -/
def okR (md : Region.Mode) (ops : Array Oper) : Nat → Array Bool → List Lay → Bool
  | 0, _, R => R.isEmpty
  | m + 1, listed, R => decide (Region.ready md ops listed = R.map Lay.i) && R.all fun r => okR md ops m (listed.setIfInBounds r.i true) (R.eraseP fun q => q.i == r.i)
theorem lays_apart {R : List Lay} (h : (R.all fun r => R.all fun q => r.i == q.i || r.o.apart ops q.o) = true) : ∀ r ∈ R, ∀ q ∈ R, r.i ≠ q.i → r.o.apart ops q.o = true := fun r hr q hq hne => by
  have h1 := List.all_eq_true.1 (List.all_eq_true.1 h r hr) q hq
  rw [Bool.or_eq_true] at h1
  rcases h1 with h1 | h1
  · exact absurd (by simpa using h1) hne
  · exact h1
theorem foldl_members {α β : Type} {f g : β → α → β} : ∀ (l : List α) (b : β), (∀ a ∈ l, ∀ b, f b a = g b a) → l.foldl f b = l.foldl g b
  | [], _, _ => rfl
  | a :: l, b, h => by
    simp only [List.foldl_cons]
    rw [h a (by simp)]
    exact foldl_members l _ fun x hx => h x (by simp [hx])
theorem lay_unique : ∀ (l : List Lay), (l.map Lay.i).Nodup → ∀ q ∈ l, ∀ r ∈ l, q.i = r.i → q = r
  | [], _, q, hq, _, _, _ => by cases hq
  | b :: l, hn, q, hq, r, hr, e => by
    simp only [List.map_cons, List.nodup_cons, List.mem_map] at hn
    rcases List.mem_cons.1 hq with h1 | h1 <;> rcases List.mem_cons.1 hr with h2 | h2
    · rw [h1, h2]
    · exact absurd ⟨r, h2, by rw [← e, h1]⟩ hn.1
    · exact absurd ⟨q, h1, by rw [e, h2]⟩ hn.1
    · exact lay_unique l hn.2 q h1 r h2 e
/-- what follows, once all of a list are laid: their blocks, in whatever order. -/
def Cont (P : Program) (md : Region.Mode) (ops : Array Oper) (Q : Exit → Act → World → Prop) (S : World → Prop) (fuel : Nat) (R : List Lay) (listed : Array Bool) (a : Act) (w : World) : Prop :=
  ∀ (β : Nat → Nat) (w' : World), (∀ r ∈ R, w'.heap[β r.i]? = some r.obj ∧ w.heap.size ≤ β r.i) → (∀ r ∈ R, ∀ q ∈ R, r.i ≠ q.i → β r.i ≠ β q.i) → Below w.heap.size w w' → wpAnyH P md ops Q S fuel (R.foldl (fun l r => l.setIfInBounds r.i true) listed) (R.foldl (fun a r => a.put r.o.dst (r.val (β r.i))) a) w'
theorem Cont.step {fuel : Nat} {R R' : List Lay} {r : Lay} {listed : Array Bool} {a : Act} {w : World} (h : Cont P md ops Q S fuel R listed a w) (hperm : R.Perm (r :: R')) (hnd : (R.map Lay.i).Nodup) (hap : ∀ r ∈ R, ∀ q ∈ R, r.i ≠ q.i → r.o.apart ops q.o = true) :
    Cont P md ops Q S fuel R' (listed.setIfInBounds r.i true) (a.put r.o.dst (r.val w.heap.size)) (w.alloc r.obj) := by
  have hin : ∀ q ∈ r :: R', q ∈ R := fun q hq => hperm.mem_iff.2 hq
  have huniq : ∀ q ∈ R, q.i = r.i → q = r := fun q hq e => lay_unique R hnd q hq r (hin r (by simp)) e
  have hne : ∀ q ∈ R', q.i ≠ r.i := fun q hq e => by
    have h1 := (hperm.map Lay.i).nodup hnd
    simp only [List.map_cons, List.nodup_cons, List.mem_map] at h1
    exact h1.1 ⟨q, hq, e⟩
  have hout : ∀ q ∈ R, q.i ≠ r.i → q ∈ R' := fun q hq e => by
    rcases List.mem_cons.1 (hperm.mem_iff.1 hq) with h | h
    · exact absurd (by rw [h]) e
    · exact h
  have hal : Below w.heap.size w (w.alloc r.obj) := (Below.refl _ w).alloc (Nat.le_refl _) _
  have hsz : (w.alloc r.obj).heap.size = w.heap.size + 1 := by simp
  intro β w' hβ hβn hb
  have hb2 : Below w.heap.size w w' := hal.trans (hb.mono hal.size)
  have h1 := h (fun i => if i = r.i then w.heap.size else β i) w' (fun q hq => by
    by_cases e : q.i = r.i
    · rw [if_pos e]
      rw [huniq q hq e]
      exact ⟨(hb.block _ (by omega)).trans (heap_new _ _), Nat.le_refl _⟩
    · rw [if_neg e]
      have := hβ q (hout q hq e)
      exact ⟨this.1, by omega⟩) (fun q hq q' hq' hne' => by
    by_cases e : q.i = r.i <;> by_cases e' : q'.i = r.i
    · exact absurd (e.trans e'.symm) hne'
    · simp only [if_pos e, if_neg e']
      have := (hβ q' (hout q' hq' e')).2
      omega
    · simp only [if_neg e, if_pos e']
      have := (hβ q (hout q hq e)).2
      omega
    · simp only [if_neg e, if_neg e']
      exact hβn q (hout q hq e) q' (hout q' hq' e') hne') hb2
  rw [hperm.foldl_eq' (f := fun (l : Array Bool) (r : Lay) => l.setIfInBounds r.i true) (fun x _ y _ z => by
    by_cases e : x.i = y.i
    · rw [e]
    · exact (Array.setIfInBounds_comm _ _ e).symm ▸ rfl) listed] at h1
  rw [hperm.foldl_eq' (f := fun (a : Act) (q : Lay) => a.put q.o.dst (q.val (if q.i = r.i then w.heap.size else β q.i))) (fun x hx' y hy' z => by
    by_cases e : x.i = y.i
    · have : x = y := lay_unique R hnd x (by first | exact hx' | exact hin x hx') y (by first | exact hy' | exact hin y hy') e
      rw [this]
    · exact (Act.put_comm z _ _ (Oper.apart_spec (hap y (by first | exact hy' | exact hin y hy') x (by first | exact hx' | exact hin x hx') (Ne.symm e))).2.1).symm ▸ rfl) a] at h1
  simp only [List.foldl_cons, if_true] at h1
  rw [foldl_members (f := fun (a : Act) (q : Lay) => a.put q.o.dst (q.val (if q.i = r.i then w.heap.size else β q.i))) (g := fun (a : Act) (r : Lay) => a.put r.o.dst (r.val (β r.i))) R' _ (fun q hq b => by rw [if_neg (hne q hq)])] at h1
  exact h1
/-- one of a list is taken out. -/
theorem lay_out {R : List Lay} (hnd : (R.map Lay.i).Nodup) {r : Lay} (hr : r ∈ R) : ∃ R', R.eraseP (fun q => q.i == r.i) = R' ∧ R.Perm (r :: R') ∧ (R'.map Lay.i).Nodup ∧ (∀ q ∈ R', q ∈ R ∧ q.i ≠ r.i) := by
  obtain ⟨r2, l1, l2, _, hp, hR, hE⟩ := List.exists_of_eraseP (p := fun q : Lay => q.i == r.i) hr (by simp)
  have hr2 : r2 = r := lay_unique R hnd r2 (by rw [hR]; simp) r hr (by simpa using hp)
  subst hr2
  have hperm : R.Perm (r2 :: (l1 ++ l2)) := by rw [hR]; exact List.perm_middle
  have h1 := (hperm.map Lay.i).nodup hnd
  simp only [List.map_cons, List.nodup_cons, List.mem_map] at h1
  exact ⟨l1 ++ l2, hE, hperm, h1.2, fun q hq => ⟨hperm.mem_iff.2 (List.mem_cons_of_mem _ hq), fun e => h1.1 ⟨q, hq, e⟩⟩⟩
theorem wpAnyH_lays : ∀ (m : Nat) (R : List Lay) (listed : Array Bool) (a : Act) (w : World) (fuel : Nat), R.length = m → okR md ops m listed R = true → (∀ r ∈ R, ops[r.i]? = some r.o) → (R.map Lay.i).Nodup → (∀ r ∈ R, ∀ q ∈ R, r.i ≠ q.i → r.o.apart ops q.o = true) → (∀ r ∈ R, ∀ cs b, r.o.op ≠ .select cs b) → (∀ r ∈ R, LaysR P ops r a) → (∀ wx, Below w.heap.size w wx → S wx) →
    Cont P md ops Q S fuel R listed a w → wpAnyH P md ops Q S (fuel + m) listed a w
  | 0, R, listed, a, w, fuel, hm, _, _, _, _, _, _, _, h => by
    have : R = [] := List.eq_nil_of_length_eq_zero hm
    subst this
    exact h (fun _ => 0) w (fun r hr => by cases hr) (fun r hr => by cases hr) (Below.refl _ _)
  | m + 1, R, listed, a, w, fuel, hm, hok, hi, hnd, hap, hsel, hL, hS, h => by
    simp only [okR, Bool.and_eq_true, decide_eq_true_eq, List.all_eq_true] at hok
    refine wpAnyH_all hok.1 (fun e => by have : (R.map Lay.i).length = 0 := by rw [e]; rfl
                                         rw [List.length_map] at this; omega) fun x hx => ?_
    obtain ⟨r, hr, rfl⟩ := List.mem_map.1 hx
    obtain ⟨R', hE, hperm, hnd2, hin⟩ := lay_out hnd hr
    have hlen : R'.length = m := by
      have := hperm.length_eq
      rw [hm, List.length_cons] at this
      omega
    have hal : Below w.heap.size w (w.alloc r.obj) := (Below.refl _ w).alloc (Nat.le_refl _) _
    refine (hL r hr).op (hi r hr) ⟨hS _ hal, ?_⟩
    exact wpAnyH_lays m R' _ _ _ fuel hlen (by rw [← hE]; exact hok.2 r hr) (fun q hq => hi q (hin q hq).1) hnd2 (fun q hq q' hq' => hap q (hin q hq).1 q' (hin q' hq').1) (fun q hq => hsel q (hin q hq).1) (fun q hq => (hL q (hin q hq).1).put (hap r hr q (hin q hq).1 (Ne.symm (hin q hq).2)) (hsel q (hin q hq).1) _) (fun wx hx => hS wx (hal.trans (hx.mono hal.size))) (h.step hperm hnd hap)
/-- the same, where one more may come up between them, or after. -/
def okE (md : Region.Mode) (ops : Array Oper) (e : Lay) : Nat → Array Bool → List Lay → Bool
  | 0, _, M => M.isEmpty
  | m + 1, listed, M => decide (Region.ready md ops listed = M.map Lay.i ++ [e.i]) && (okR md ops (m + 1) (listed.setIfInBounds e.i true) M && M.all fun r => okE md ops e m (listed.setIfInBounds r.i true) (M.eraseP fun q => q.i == r.i))
theorem wpAnyH_layse (e : Lay) : ∀ (m : Nat) (M : List Lay) (listed : Array Bool) (a : Act) (w : World) (fuel : Nat), M.length = m → okE md ops e m listed M = true → (∀ r ∈ e :: M, ops[r.i]? = some r.o) → ((e :: M).map Lay.i).Nodup → (∀ r ∈ e :: M, ∀ q ∈ e :: M, r.i ≠ q.i → r.o.apart ops q.o = true) → (∀ r ∈ e :: M, ∀ cs b, r.o.op ≠ .select cs b) → (∀ r ∈ e :: M, LaysR P ops r a) → (∀ wx, Below w.heap.size w wx → S wx) →
    Cont P md ops Q S fuel (e :: M) listed a w → Cont P md ops Q S (fuel + 1) M listed a w → wpAnyH P md ops Q S (fuel + 1 + m) listed a w
  | 0, M, listed, a, w, fuel, hm, _, _, _, _, _, _, _, _, h => by
    have : M = [] := List.eq_nil_of_length_eq_zero hm
    subst this
    exact h (fun _ => 0) w (fun r hr => by cases hr) (fun r hr => by cases hr) (Below.refl _ _)
  | m + 1, M, listed, a, w, fuel, hm, hok, hi, hnd, hap, hsel, hL, hS, hA, hB => by
    simp only [okE, Bool.and_eq_true, decide_eq_true_eq, List.all_eq_true] at hok
    have hndM : (M.map Lay.i).Nodup := by
      simp only [List.map_cons, List.nodup_cons] at hnd
      exact hnd.2
    have heM : ∀ q ∈ M, q.i ≠ e.i := fun q hq h => by
      simp only [List.map_cons, List.nodup_cons, List.mem_map] at hnd
      exact hnd.1 ⟨q, hq, h⟩
    have he : e ∈ e :: M := by simp
    refine wpAnyH_all hok.1 (by simp) fun x hx => ?_
    rcases List.mem_append.1 hx with hx | hx
    · obtain ⟨r, hr, rfl⟩ := List.mem_map.1 hx
      have hrE : r ∈ e :: M := List.mem_cons_of_mem _ hr
      obtain ⟨M', hE, hperm, hnd2, hin⟩ := lay_out hndM hr
      have hlen : M'.length = m := by
        have := hperm.length_eq
        rw [hm, List.length_cons] at this
        omega
      have hal : Below w.heap.size w (w.alloc r.obj) := (Below.refl _ w).alloc (Nat.le_refl _) _
      have hpE : (e :: M).Perm (r :: (e :: M')) := (hperm.cons e).trans (List.Perm.swap r e M')
      have hinE : ∀ q ∈ e :: M', q ∈ e :: M ∧ q.i ≠ r.i := fun q hq => by
        rcases List.mem_cons.1 hq with h | h
        · rw [h]
          exact ⟨he, Ne.symm (heM r hr)⟩
        · exact ⟨List.mem_cons_of_mem _ (hin q h).1, (hin q h).2⟩
      have hndE : ((e :: M').map Lay.i).Nodup := by
        have h1 := (hpE.map Lay.i).nodup hnd
        simp only [List.map_cons] at h1
        exact (List.nodup_cons.1 h1).2
      refine (hL r hrE).op (hi r hrE) ⟨hS _ hal, ?_⟩
      exact wpAnyH_layse e m M' _ _ _ fuel hlen (by rw [← hE]; exact hok.2.2 r hr) (fun q hq => hi q (hinE q hq).1) hndE (fun q hq q' hq' => hap q (hinE q hq).1 q' (hinE q' hq').1) (fun q hq => hsel q (hinE q hq).1) (fun q hq => (hL q (hinE q hq).1).put (hap r hrE q (hinE q hq).1 (Ne.symm (hinE q hq).2)) (hsel q (hinE q hq).1) _) (fun wx hx => hS wx (hal.trans (hx.mono hal.size))) (hA.step hpE hnd hap) (hB.step hperm hndM fun q hq q' hq' => hap q (List.mem_cons_of_mem _ hq) q' (List.mem_cons_of_mem _ hq'))
    · obtain rfl : x = e.i := by simpa using hx
      have hal : Below w.heap.size w (w.alloc e.obj) := (Below.refl _ w).alloc (Nat.le_refl _) _
      refine (hL e he).op (hi e he) ⟨hS _ hal, ?_⟩
      show wpAnyH P md ops Q S (fuel + 1 + m) _ _ _
      rw [show fuel + 1 + m = fuel + (m + 1) by omega]
      exact wpAnyH_lays (m + 1) M _ _ _ fuel hm hok.2.1 (fun q hq => hi q (List.mem_cons_of_mem _ hq)) hndM (fun q hq q' hq' => hap q (List.mem_cons_of_mem _ hq) q' (List.mem_cons_of_mem _ hq')) (fun q hq => hsel q (List.mem_cons_of_mem _ hq)) (fun q hq => (hL q (List.mem_cons_of_mem _ hq)).put (hap e he q (List.mem_cons_of_mem _ hq) (Ne.symm (heM q hq))) (hsel q (List.mem_cons_of_mem _ hq)) _) (fun wx hx => hS wx (hal.trans (hx.mono hal.size))) (hA.step (List.Perm.refl _) hnd hap)
end
end Go.Proofs.YtnkfggccahohpaaDoor
