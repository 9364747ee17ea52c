/- What SearchMemory wants besides: viaductref05.Same at arrays that are one, Bounded at whatever arrays, and what is written where. Path of both at whatever arrays, told once; what may be written of an answer. what SearchMemory writes: rows and lists that lie in stretches of their own. -/
import Derived.Test.YtnkfggccahohpabScW
import Derived.Test.YtnkfggccahohpabSdC
namespace Go.Proofs.Ytnkfggccahohpab
open Go.RowKit Go.Extern

attribute [local go_sem] Oper.semAt_some

set_option maxRecDepth 100000 in
set_option maxHeartbeats 4000000 in
theorem rSame_yes (ao bo co po qo ro : Option Addr) (al ac bl bc cl cc pc qc rc : Nat) (F T V : List Int) (w : World) (ha : HasInts w (.slice ao al ac) F) (hb : HasInts w (.slice bo bl bc) T) (hc : HasInts w (.slice co cl cc) V) (hp : HasInts w (.slice po al pc) F) (hq : HasInts w (.slice qo bl qc) T) (hr : HasInts w (.slice ro cl rc) V) (hF : F.length ≤ maxLen) (hT : T.length ≤ maxLen) (hV : V.length ≤ maxLen) :
    Calls Try.prog 11 #[.agg #[.slice ao al ac, .slice bo bl bc, .slice co cl cc], .agg #[.slice po al pc, .slice qo bl qc, .slice ro cl rc]] w fun e w' => e = .returned (.bool true) ∧ Below w.heap.size w w' := by
  obtain ⟨W0, hW0⟩ : ∃ W0, (w.alloc (.cells #[.slice ao al ac, .slice bo bl bc, .slice co cl cc] 24)).alloc (.cells #[.slice po al pc, .slice qo bl qc, .slice ro cl rc] 24) = W0 := ⟨_, rfl⟩
  have HW0 : Hid ((w.alloc (.cells #[.slice ao al ac, .slice bo bl bc, .slice co cl cc] 24)).alloc (.cells #[.slice po al pc, .slice qo bl qc, .slice ro cl rc] 24) = W0) := hW0
  have hB0 : Below w.heap.size w W0 := by rw [← hW0]; exact ((Below.refl _ w).alloc (Nat.le_refl _) _).alloc (by simp) _
  have k1 : W0.heap[w.heap.size]? = some (.cells #[.slice ao al ac, .slice bo bl bc, .slice co cl cc] 24) := by rw [← hW0, Below.heap_alloc _ _ _ (by simp)]; exact heap_new _ _
  have k2 : W0.heap[w.heap.size + 1]? = some (.cells #[.slice po al pc, .slice qo bl qc, .slice ro cl rc] 24) := by
    have h := heap_new (w.alloc (.cells #[.slice ao al ac, .slice bo bl bc, .slice co cl cc] 24)) (.cells #[.slice po al pc, .slice qo bl qc, .slice ro cl rc] 24)
    rw [hW0] at h
    simpa using h
  have HK : Hid (∀ wx, Below W0.heap.size W0 wx → (wx.cell? ⟨w.heap.size, 0, none⟩ = some (.slice ao al ac) ∧ wx.cell? ⟨w.heap.size, 1, none⟩ = some (.slice bo bl bc) ∧ wx.cell? ⟨w.heap.size, 2, none⟩ = some (.slice co cl cc)) ∧ (wx.cell? ⟨w.heap.size + 1, 0, none⟩ = some (.slice po al pc) ∧ wx.cell? ⟨w.heap.size + 1, 1, none⟩ = some (.slice qo bl qc) ∧ wx.cell? ⟨w.heap.size + 1, 2, none⟩ = some (.slice ro cl rc)) ∧ w.heap.size < wx.heap.size ∧ w.heap.size + 1 < wx.heap.size ∧ Below w.heap.size w wx) := fun wx hx => by
    have g1 := (hx.block _ (lt_of_get k1)).trans k1
    have g2 := (hx.block _ (lt_of_get k2)).trans k2
    exact ⟨box3 g1, box3 g2, lt_of_get g1, lt_of_get g2, hB0.trans (hx.mono hB0.size)⟩
  have H1 : Hid (∀ wx, Below W0.heap.size W0 wx → Calls Try.prog 30 #[.slice ao al ac, .slice po al pc] wx fun e w' => e = .returned (.bool true) ∧ Below W0.heap.size W0 w') := fun wx hx => (sameInts_yes _ _ F wx (ha.keep (HK.out wx hx).2.2.2.2) (hp.keep (HK.out wx hx).2.2.2.2) hF).mono fun e w' ⟨he, hb⟩ => ⟨he, hx.trans (hb.mono hx.size)⟩
  have H2 : Hid (∀ wx, Below W0.heap.size W0 wx → Calls Try.prog 30 #[.slice bo bl bc, .slice qo bl qc] wx fun e w' => e = .returned (.bool true) ∧ Below W0.heap.size W0 w') := fun wx hx => (sameInts_yes _ _ T wx (hb.keep (HK.out wx hx).2.2.2.2) (hq.keep (HK.out wx hx).2.2.2.2) hT).mono fun e w' ⟨he, hb⟩ => ⟨he, hx.trans (hb.mono hx.size)⟩
  have H3 : Hid (∀ wx, Below W0.heap.size W0 wx → Calls Try.prog 30 #[.slice co cl cc, .slice ro cl rc] wx fun e w' => e = .returned (.bool true) ∧ Below W0.heap.size W0 w') := fun wx hx => (sameInts_yes _ _ V wx (hc.keep (HK.out wx hx).2.2.2.2) (hr.keep (HK.out wx hx).2.2.2.2) hV).mono fun e w' ⟨he, hb⟩ => ⟨he, hx.trans (hb.mono hx.size)⟩
  clear ha hb hc hp hq hr hW0 hB0 k1 k2
  have tok1 : Hid (1 = 1) := rfl
  have tok2 : Hid (2 = 2) := rfl
  go_enter Try.func11, Try.ntmps11
  go_wp2_with fail
  rw [HW0.out]
  refine (H1.out W0 (Below.refl _ _)).mono ?_
  rintro e w1 ⟨rfl, hb1⟩
  have HB1 : Hid (Below W0.heap.size W0 w1) := hb1
  obtain ⟨⟨c0, c1, c2⟩, ⟨d0, d1, d2⟩, cs, ds, _⟩ := HK.out w1 hb1
  clear hb1
  go_wp2_with (first
    | (go_at_call 30; have _t := tok1; clear tok1 _t; refine (H2.out w1 HB1.out).mono ?_; rintro e w2 ⟨rfl, hb2⟩; have HB2 : Hid (Below W0.heap.size W0 w2) := hb2; clear hb2 c0 c1 c2 d0 d1 d2 cs ds; obtain ⟨⟨c0, c1, c2⟩, ⟨d0, d1, d2⟩, cs, ds, _⟩ := HK.out w2 HB2.out)
    | (go_at_call 30; have _t := tok2; clear tok2 _t; refine (H3.out w2 HB2.out).mono ?_; rintro e w3 ⟨rfl, hb3⟩; have HB3 : Hid (Below w.heap.size w w3) := (HK.out w3 hb3).2.2.2.2; clear hb3))
  go_ret
  exact ⟨rfl, HB3.out⟩

theorem bounded_any (F T W : List Int) (C : Int × List (Int × Int)) (hC : ChkIs F T W C) (hm : F.length ≤ maxLen) (s hp se mo : Int) (w : World) (fo uo wo : Option Addr) (fc tc wc : Nat) (h : Arr w F T W fo uo wo fc tc wc) :
    Calls Try.prog 10 #[.agg #[.slice fo F.length fc, .slice uo T.length tc, .slice wo W.length wc], .int .i64 s, .int .i64 hp, .int .i64 se, .int .u64 mo] w fun e w' => (∃ a b, e = .returned (.tuple #[a, b])) ∧ Below w.heap.size w w' := by
  rcases (chk_split hC).2 with h1 | ⟨rfl, n, m, zs, hL, hz, e1, e2, e3, e4⟩
  · refine (sBounded_early (.slice fo F.length fc) (.slice uo T.length tc) (.slice wo W.length wc) s hp se mo w C (fun wx hx => check_iface hC hm h1 (h.keep hx))).mono ?_
    rintro e w' ⟨Ty, x, rfl, ht, hb⟩
    exact ⟨⟨_, _, rfl⟩, hb⟩
  · obtain ⟨f1, f2, f3, hCI, hD⟩ := good_of F T W hC hm hL e1 e2 e3 e4 w fo uo wo fc tc wc h
    rw [f1, f2, f3]
    by_cases hs : 0 ≤ s ∧ s < (n : Int)
    · obtain ⟨p, rfl⟩ : ∃ p : Nat, s = (p : Int) := ⟨s.toNat, by omega⟩
      refine (sBounded_good n zs fo uo wo fc tc wc w hz hCI p (by omega) hp se mo).mono ?_
      rintro e w' ⟨S0, t, S, lo, lc, _, rfl, ho, hb⟩
      exact ⟨⟨_, _, rfl⟩, hb⟩
    · refine (sBounded_node n zs fo uo wo fc tc wc w hz hCI s hp se mo hs).mono ?_
      rintro e w' ⟨rfl, hb⟩
      exact ⟨⟨_, _, rfl⟩, hb⟩
/-- which blocks may be written: those of three stretches. -/
def Open3 (a0 a1 l0 l1 p0 p1 k : Nat) : Prop := (a0 ≤ k ∧ k < a1) ∨ (l0 ≤ k ∧ k < l1) ∨ (p0 ≤ k ∧ k < p1)
/-- nothing else is written. -/
structure But3 (a0 a1 l0 l1 p0 p1 : Nat) (w w' : World) : Prop where
  os : w'.os = w.os
  tape : w'.tape = w.tape
  output : w'.output = w.output
  size : w.heap.size ≤ w'.heap.size
  block : ∀ k, k < w.heap.size → ¬ Open3 a0 a1 l0 l1 p0 p1 k → w'.heap[k]? = w.heap[k]?
section
variable {a0 a1 l0 l1 p0 p1 : Nat} {w w' w'' : World}
theorem But3.refl (w : World) : But3 a0 a1 l0 l1 p0 p1 w w := ⟨rfl, rfl, rfl, Nat.le_refl _, fun _ _ _ => rfl⟩
theorem But3.below (h : But3 a0 a1 l0 l1 p0 p1 w w') (hb : Below w'.heap.size w' w'') : But3 a0 a1 l0 l1 p0 p1 w w'' := ⟨hb.os.trans h.os, hb.tape.trans h.tape, hb.output.trans h.output, Nat.le_trans h.size hb.size, fun k hk ho => (hb.block k (Nat.lt_of_lt_of_le hk h.size)).trans (h.block k hk ho)⟩
theorem But3.put (h : But3 a0 a1 l0 l1 p0 p1 w w') {b : Nat} (hb : Open3 a0 a1 l0 l1 p0 p1 b) (o : Nat) (v : Value) : But3 a0 a1 l0 l1 p0 p1 w (w'.setCell ⟨b, o, none⟩ v) := ⟨h.os, h.tape, h.output, by simpa using h.size, fun k hk ho => (heap_setCell_other _ _ _ _ (fun e => ho (by have e' : k = b := e; rw [e']; exact hb))).trans (h.block k hk ho)⟩
theorem But3.low (h : But3 a0 a1 l0 l1 p0 p1 w w') {B : Nat} (hB : B ≤ w.heap.size) (h0 : B ≤ a0 ∧ B ≤ l0 ∧ B ≤ p0) : Below B w w' := ⟨h.os, h.tape, h.output, h.size, fun k hk => h.block k (by omega) (fun e => by unfold Open3 at e; omega)⟩
end
end Go.Proofs.Ytnkfggccahohpab

namespace Go.Proofs.Ytnkfggccahohpab
open Go.RowKit Go.Extern

/-- a list of numbers that is new memory. -/
def PW (B : Nat) (w' : World) (po : Option Addr) (m : Nat) : Prop := m = 0 ∨ ∃ g cur, po = some ⟨g, 0, none⟩ ∧ B ≤ g ∧ w'.heap[g]? = some (.cells cur 3) ∧ m ≤ cur.size ∧ cur.size ≤ maxLen
/-- what Path answers: an error, or a list that the reference takes for a path of that length. -/
def PA (F T W : List Int) (s t d : Int) (w : World) (e : Ending) (w' : World) : Prop := ∃ (po : Option Addr) (m pc : Nat) (v : Value), e = .returned (.tuple #[.slice po m pc, v]) ∧ PW w.heap.size w' po m ∧ ((∃ Ty x, v = .iface Ty x) ∨ (v = .nilIface ∧ ∃ xs, HasInts w' (.slice po m pc) xs ∧ ∀ wx fo uo wo fc tc wc, Arr wx F T W fo uo wo fc tc wc → HasInts wx (.slice po m pc) xs → Calls Try.prog 17 #[.agg #[.slice fo F.length fc, .slice uo T.length tc, .slice wo W.length wc], .slice po m pc, .int .i64 s, .int .i64 t, .int .u64 d] wx fun e w' => e = .returned (.bool true) ∧ Below wx.heap.size wx w')) ∧ Below w.heap.size w w'
theorem path_any (F T W : List Int) (C : Int × List (Int × Int)) (hC : ChkIs F T W C) (hm : F.length ≤ maxLen) (s t : Int) : ∃ (d : Int) (E : Int × List (Int × Int)),
    (∀ w fo uo wo fc tc wc, Arr w F T W fo uo wo fc tc wc → Calls Try.prog 9 #[.agg #[.slice fo F.length fc, .slice uo T.length tc, .slice wo W.length wc], .int .i64 s, .int .i64 t] w (PA F T W s t d w)) ∧
    (∀ w fo uo wo fc tc wc, Arr w F T W fo uo wo fc tc wc → Calls Try.prog 14 #[.agg #[.slice fo F.length fc, .slice uo T.length tc, .slice wo W.length wc], .int .i64 s, .int .i64 t] w (QAns w d E)) := by
  rcases path_both F T W C hC hm s t with ⟨E, hE, h1, h2⟩ | ⟨d, h1, h2⟩
  · refine ⟨0, E, fun w fo uo wo fc tc wc h => (h1 w fo uo wo fc tc wc h).mono ?_, h2⟩
    rintro e w' ⟨v, rfl, ht, hb⟩
    obtain ⟨Ty, x, rfl⟩ := told_iface9 ht hE.1
    exact ⟨none, 0, 0, _, rfl, Or.inl rfl, Or.inl ⟨Ty, x, rfl⟩, hb⟩
  · refine ⟨d, (0, []), fun w fo uo wo fc tc wc h => (h1 w fo uo wo fc tc wc h).mono ?_, h2⟩
    rintro e w' ⟨g, q, pc, xs, rfl, ⟨hg, cur, hc, hq⟩, ⟨hI, hR⟩, hb⟩
    exact ⟨some ⟨g, 0, none⟩, q + 1, pc, .nilIface, rfl, Or.inr ⟨g, cur, rfl, hg, hc, hq⟩, Or.inr ⟨rfl, xs, hI, hR⟩, hb⟩
/-- a row of numbers that may be written: all of it lies in a stretch that is open. -/
def AW (op : Nat → Prop) (w : World) (ao : Option Addr) (n : Nat) : Prop := n = 0 ∨ ∃ b D, ao = some ⟨b, 0, none⟩ ∧ op b ∧ D.length = n ∧ U64s w b D
theorem AW.of {op : Nat → Prop} {w : World} {ao : Option Addr} {D : List Int} (h : URow w ao D) (ho : ∀ b, ao = some ⟨b, 0, none⟩ → op b) : AW op w ao D.length := by
  rcases h with ⟨_, rfl⟩ | ⟨b, rfl, hU⟩
  · exact Or.inl rfl
  · exact Or.inr ⟨b, D, rfl, ho b rfl, rfl, hU⟩
/-- a list of numbers that may be written. -/
def IW (op : Nat → Prop) (w : World) (po : Option Addr) (m : Nat) : Prop := m = 0 ∨ ∃ g cur, po = some ⟨g, 0, none⟩ ∧ op g ∧ w.heap[g]? = some (.cells cur 3) ∧ m ≤ cur.size ∧ cur.size ≤ maxLen
/-- rows that may be written; of the first k all numbers are 78. -/
def LW (op : Nat → Prop) (w : World) (lo : Option Addr) (n k : Nat) (vs : List Value) : Prop := vs.length = n ∧ HasRows w lo vs ∧ ∀ i, i < n → ∃ db D, vs[i]? = some (.slice (some ⟨db, 0, none⟩) n n) ∧ op db ∧ U64s w db D ∧ D.length = n ∧ (i < k → ∀ j, j < n → D[j]? = some 78)
end Go.Proofs.Ytnkfggccahohpab

namespace Go.Proofs.Ytnkfggccahohpab
open Go.RowKit Go.Extern

theorem grown_trans {w1 w2 w3 : World} {row : Option Nat} (h1 : w1.grownBy w2 row) (h2 : w2.grownBy w3 row) : w1.grownBy w3 row :=
  ⟨h2.os.trans h1.os, h2.tape.trans h1.tape, h2.output.trans h1.output, Nat.le_trans h1.size h2.size, fun k hk hn => (h2.block k (Nat.lt_of_lt_of_le hk h1.size) hn).trans (h1.block k hk hn)⟩
theorem grown_alloc (w : World) (o : Obj) : w.grownBy (w.alloc o) none := ⟨rfl, rfl, rfl, (below1 w o).size, fun k hk _ => (below1 w o).block k hk⟩
/-- a stretch of blocks. -/
def Str (a b k : Nat) : Prop := a ≤ k ∧ k < b
theorem AW.put {op : Nat → Prop} {w : World} {ao : Option Addr} {n i : Nat} (h : AW op w ao n) (hi : i < n) (x : Int) : ∃ b y, ao = some ⟨b, 0, none⟩ ∧ op b ∧ (w.cell? ⟨b, i, none⟩ = some (.int .u64 y) ∧ b < w.heap.size ∧ w.frozen? ⟨b, i, none⟩ = false) ∧ AW op (w.setCell ⟨b, i, none⟩ (.int .u64 x)) ao n := by
  rcases h with h | ⟨b, D, rfl, ho, hl, hU⟩
  · omega
  · obtain ⟨y, hy⟩ : ∃ y, D[i]? = some y := ⟨D[i]'(by omega), List.getElem?_eq_getElem _⟩
    exact ⟨b, y, rfl, ho, hU.at hy, Or.inr ⟨b, D.set i x, rfl, ho, by rw [List.length_set]; exact hl, hU.set i x⟩⟩
theorem IW.put {op : Nat → Prop} {w : World} {po : Option Addr} {m i : Nat} (h : IW op w po m) (hi : i < m) (x : Value) : ∃ g y, po = some ⟨g, 0, none⟩ ∧ op g ∧ (w.cell? ⟨g, i, none⟩ = some y ∧ g < w.heap.size ∧ w.frozen? ⟨g, i, none⟩ = false) ∧ IW op (w.setCell ⟨g, i, none⟩ x) po m := by
  rcases h with h | ⟨g, cur, rfl, ho, hc, hm⟩
  · omega
  · have hm1 := hm.1
    refine ⟨g, cur[i]'(by omega), rfl, ho, ⟨?_, lt_of_get hc, ?_⟩, Or.inr ⟨g, cur.setIfInBounds i x, rfl, ho, Go.heap_setCell_same _ _ i _ _ _ hc, by simpa using hm.1, by simpa using hm.2⟩⟩
    · simp [World.cell?, hc]
    · simp [World.frozen?, hc]
theorem IW.small {op : Nat → Prop} {w : World} {po : Option Addr} {m : Nat} (h : IW op w po m) : m ≤ maxLen := by
  rcases h with h | ⟨g, cur, _, _, _, hm⟩
  · rw [h]; exact Nat.zero_le _
  · exact Nat.le_trans hm.1 hm.2
theorem IW.keep {op : Nat → Prop} {w w' : World} {po : Option Addr} {m : Nat} (h : IW op w po m) (hk : ∀ k, op k → k < w.heap.size → w'.heap[k]? = w.heap[k]?) : IW op w' po m := by
  rcases h with h | ⟨g, cur, e, ho, hc, hm⟩
  · exact Or.inl h
  · exact Or.inr ⟨g, cur, e, ho, (hk g ho (lt_of_get hc)).trans hc, hm⟩
/-- rows that may be written: of the first k all numbers are 78, of the next one the first j. -/
structure LR (op : Nat → Prop) (w : World) (lo : Option Addr) (n k j : Nat) (vs : List Value) : Prop where
  len : vs.length = n
  rows : HasRows w lo vs
  in' : ∀ b, lo = some ⟨b, 0, none⟩ → n = 0 ∨ op b
  row : ∀ i, i < n → ∃ db D, vs[i]? = some (.slice (some ⟨db, 0, none⟩) n n) ∧ op db ∧ U64s w db D ∧ D.length = n ∧ (i < k → ∀ u, u < n → D[u]? = some 78) ∧ (i = k → ∀ u, u < j → D[u]? = some 78)
section
variable {op : Nat → Prop} {w w' : World} {lo : Option Addr} {n k j : Nat} {vs : List Value}
theorem LR.keep (h : LR op w lo n k j vs) (hk : ∀ g, op g → g < w.heap.size → w'.heap[g]? = w.heap[g]?) : LR op w' lo n k j vs := by
  refine ⟨h.len, fun i v hv => ?_, h.in', fun i hi => ?_⟩
  · obtain ⟨b, e, ⟨cur, hc⟩, hx⟩ := h.rows i v hv
    have hg := hk b ((h.in' b e).resolve_left (by have := (List.getElem?_eq_some_iff.1 hv).1; rw [h.len] at this; omega)) (lt_of_get hc)
    exact ⟨b, e, ⟨cur, hg.trans hc⟩, (World.cell?_of_block hg).trans hx⟩
  · obtain ⟨db, D, e, ho, hU, r⟩ := h.row i hi
    exact ⟨db, D, e, ho, (hk db ho (lt_of_get hU)).trans hU, r⟩
theorem LR.cell (h : LR op w lo n k j vs) {i : Nat} (hi : i < n) : ∃ rb db D, lo = some ⟨rb, 0, none⟩ ∧ (w.cell? ⟨rb, i, none⟩ = some (.slice (some ⟨db, 0, none⟩) n n) ∧ rb < w.heap.size) ∧ op db ∧ U64s w db D ∧ D.length = n ∧ (i < k → ∀ u, u < n → D[u]? = some 78) ∧ (i = k → ∀ u, u < j → D[u]? = some 78) ∧ vs[i]? = some (.slice (some ⟨db, 0, none⟩) n n) := by
  obtain ⟨db, D, e, ho, hU, hl, h1, h2⟩ := h.row i hi
  obtain ⟨b, e2, ⟨cur, hc⟩, hx⟩ := h.rows i _ e
  exact ⟨b, db, D, e2, ⟨hx, lt_of_get hc⟩, ho, hU, hl, h1, h2, e⟩
theorem LR.put (h : LR op w lo n k j vs) (hk : k < n) (hj : j < n) {db : Nat} (hdb : vs[k]? = some (.slice (some ⟨db, 0, none⟩) n n)) {D0 : List Int} (hU0 : U64s w db D0) : LR op (w.setCell ⟨db, j, none⟩ (.int .u64 78)) lo n k (j + 1) vs := by
  refine ⟨h.len, fun i v hv => ?_, h.in', fun i hi => ?_⟩
  · obtain ⟨b, e, ⟨cur, hc⟩, hx⟩ := h.rows i v hv
    have hne : b ≠ db := fun e2 => by
      have h2 : w.heap[db]? = _ := hU0
      rw [e2, h2] at hc
      injection hc with hc
      injection hc with _ hc
      exact absurd hc (by decide)
    have hg : (w.setCell ⟨db, j, none⟩ (.int .u64 78)).heap[b]? = w.heap[b]? := heap_setCell_other _ _ _ _ hne
    exact ⟨b, e, ⟨cur, hg.trans hc⟩, (World.cell?_of_block hg).trans hx⟩
  · obtain ⟨d1, D, e, ho, hU, hl, h1, h2⟩ := h.row i hi
    by_cases hd : d1 = db
    · subst hd
      refine ⟨d1, D.set j 78, e, ho, hU.set j 78, by rw [List.length_set]; exact hl, fun hik u hu => ?_, fun hik u hu => ?_⟩
      · rw [List.getElem?_set]
        split
        · rw [if_pos (by omega)]
        · exact h1 hik u hu
      · rw [List.getElem?_set]
        split
        · rw [if_pos (by omega)]
        · exact h2 hik u (by omega)
    · refine ⟨d1, D, e, ho, (heap_setCell_other _ _ _ _ hd).trans hU, hl, h1, fun hik => ?_⟩
      subst hik
      rw [hdb] at e
      injection e with e
      injection e with e
      injection e with e
      injection e with e
      exact absurd e.symm hd
theorem LR.next (h : LR op w lo n k n vs) : LR op w lo n (k + 1) 0 vs := ⟨h.len, h.rows, h.in', fun i hi => by
  obtain ⟨db, D, e, ho, hU, hl, h1, h2⟩ := h.row i hi
  refine ⟨db, D, e, ho, hU, hl, fun hik => ?_, fun _ u hu => by omega⟩
  by_cases he : i = k
  · exact h2 he
  · exact h1 (by omega)⟩
end
end Go.Proofs.Ytnkfggccahohpab
