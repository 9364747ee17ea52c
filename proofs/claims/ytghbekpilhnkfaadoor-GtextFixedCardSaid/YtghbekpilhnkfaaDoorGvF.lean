/- the law GtextFixed. (genvf.py) -/
import Derived.Test.YtghbekpilhnkfaaDoorGuD
import Derived.Test.YtghbekpilhnkfaaDoorGtR
import Derived.Test.YtghbekpilhnkfaaDoorHdM
import Derived.Laws.OwnMore
namespace Go.Proofs.YtghbekpilhnkfaaDoor.Gt
open Go Go.Lib Go.RowKit Go.Extern Hi

attribute [local go_sem] Oper.semAt_some

def cT : Array Value := #[.string ⟨#[]⟩, .string ⟨#[103, 114, 97, 112, 104, 32, 49, 32, 48]⟩, .string ⟨#[103, 114, 97, 112, 104, 32, 49, 32, 48, 10, 101, 110, 100, 10, 101, 110, 100]⟩, .string ⟨#[103, 114, 97, 102]⟩, .string ⟨#[103, 114, 97, 112, 104, 32, 49]⟩, .string ⟨#[103, 114, 97, 112, 104, 32, 49, 32, 48, 32, 48]⟩, .string ⟨#[103, 114, 97, 112, 104, 32, 54, 53, 53, 51, 55, 32, 120, 10, 101, 110, 100]⟩, .string ⟨#[103, 114, 97, 112, 104, 32, 120, 32, 57, 57, 57, 57, 57, 57]⟩, .string ⟨#[103, 114, 97, 112, 104, 32, 50, 32, 49, 10, 97, 114, 99, 32, 48, 32, 50, 32, 120, 10, 101, 110, 100]⟩, .string ⟨#[103, 114, 97, 112, 104, 32, 50, 32, 49, 10, 101, 110, 100]⟩, .string ⟨#[103, 114, 97, 112, 104, 32, 50, 32, 49, 10, 97, 114, 99, 32, 48, 32, 49, 32, 50, 49, 52, 55, 52, 56, 51, 54, 52, 56, 10, 101, 110, 100]⟩, .string ⟨#[103, 114, 97, 112, 104, 32, 50, 32, 50, 54, 50, 49, 52, 53]⟩, .string ⟨#[103, 114, 97, 112, 104, 32, 50, 32, 49, 10, 97, 114, 99, 32, 48, 32, 49, 10, 101, 110, 100]⟩, .string ⟨#[103, 114, 97, 112, 104, 32, 50, 32, 49, 10, 97, 114, 99, 32, 48, 32, 49, 32, 53, 10, 101, 110, 100, 32, 48]⟩, .string ⟨#[103, 114, 97, 112, 104, 32, 48, 32, 49, 10, 97, 114, 99, 32, 48, 32, 48, 32, 48]⟩, .string ⟨#[103, 114, 97, 112, 104, 32, 48, 32, 49, 10, 97, 114, 99, 32, 120, 32, 48, 32, 48]⟩, .string ⟨#[35, 10, 101, 110, 100]⟩, .string ⟨#[103, 114, 97, 112, 104, 32, 49, 32, 49, 10, 97, 114, 99, 32, 48, 32, 48, 32, 48]⟩]
def cL : Array Value := #[.int .i64 0, .int .i64 1, .int .i64 3, .int .i64 1, .int .i64 1, .int .i64 1, .int .i64 1, .int .i64 1, .int .i64 2, .int .i64 2, .int .i64 2, .int .i64 1, .int .i64 2, .int .i64 3, .int .i64 2, .int .i64 2, .int .i64 2, .int .i64 2]
def cC : Array Value := #[.int .i64 5, .int .i64 5, .int .i64 6, .int .i64 3, .int .i64 5, .int .i64 6, .int .i64 9, .int .i64 4, .int .i64 7, .int .i64 3, .int .i64 8, .int .i64 9, .int .i64 5, .int .i64 6, .int .i64 7, .int .i64 4, .int .i64 3, .int .i64 5]
theorem the_texts : ∀ i, i < 18 → ∃ (s : ByteArray) (l c : Int), cT[i]? = some (.string s) ∧ cL[i]? = some (.int .i64 l) ∧ cC[i]? = some (.int .i64 c) ∧ psE (bs s) = (c, [(1, l)]) ∧ s.size ≤ 1000 ∧ c ≠ 0 := by
  intro i hi
  match i, hi with
  | 0, _ => exact ⟨⟨#[]⟩, 0, 5, rfl, rfl, rfl, by decide +kernel, by decide, by decide⟩
  | 1, _ => exact ⟨⟨#[103, 114, 97, 112, 104, 32, 49, 32, 48]⟩, 1, 5, rfl, rfl, rfl, by decide +kernel, by decide, by decide⟩
  | 2, _ => exact ⟨⟨#[103, 114, 97, 112, 104, 32, 49, 32, 48, 10, 101, 110, 100, 10, 101, 110, 100]⟩, 3, 6, rfl, rfl, rfl, by decide +kernel, by decide, by decide⟩
  | 3, _ => exact ⟨⟨#[103, 114, 97, 102]⟩, 1, 3, rfl, rfl, rfl, by decide +kernel, by decide, by decide⟩
  | 4, _ => exact ⟨⟨#[103, 114, 97, 112, 104, 32, 49]⟩, 1, 5, rfl, rfl, rfl, by decide +kernel, by decide, by decide⟩
  | 5, _ => exact ⟨⟨#[103, 114, 97, 112, 104, 32, 49, 32, 48, 32, 48]⟩, 1, 6, rfl, rfl, rfl, by decide +kernel, by decide, by decide⟩
  | 6, _ => exact ⟨⟨#[103, 114, 97, 112, 104, 32, 54, 53, 53, 51, 55, 32, 120, 10, 101, 110, 100]⟩, 1, 9, rfl, rfl, rfl, by decide +kernel, by decide, by decide⟩
  | 7, _ => exact ⟨⟨#[103, 114, 97, 112, 104, 32, 120, 32, 57, 57, 57, 57, 57, 57]⟩, 1, 4, rfl, rfl, rfl, by decide +kernel, by decide, by decide⟩
  | 8, _ => exact ⟨⟨#[103, 114, 97, 112, 104, 32, 50, 32, 49, 10, 97, 114, 99, 32, 48, 32, 50, 32, 120, 10, 101, 110, 100]⟩, 2, 7, rfl, rfl, rfl, by decide +kernel, by decide, by decide⟩
  | 9, _ => exact ⟨⟨#[103, 114, 97, 112, 104, 32, 50, 32, 49, 10, 101, 110, 100]⟩, 2, 3, rfl, rfl, rfl, by decide +kernel, by decide, by decide⟩
  | 10, _ => exact ⟨⟨#[103, 114, 97, 112, 104, 32, 50, 32, 49, 10, 97, 114, 99, 32, 48, 32, 49, 32, 50, 49, 52, 55, 52, 56, 51, 54, 52, 56, 10, 101, 110, 100]⟩, 2, 8, rfl, rfl, rfl, by decide +kernel, by decide, by decide⟩
  | 11, _ => exact ⟨⟨#[103, 114, 97, 112, 104, 32, 50, 32, 50, 54, 50, 49, 52, 53]⟩, 1, 9, rfl, rfl, rfl, by decide +kernel, by decide, by decide⟩
  | 12, _ => exact ⟨⟨#[103, 114, 97, 112, 104, 32, 50, 32, 49, 10, 97, 114, 99, 32, 48, 32, 49, 10, 101, 110, 100]⟩, 2, 5, rfl, rfl, rfl, by decide +kernel, by decide, by decide⟩
  | 13, _ => exact ⟨⟨#[103, 114, 97, 112, 104, 32, 50, 32, 49, 10, 97, 114, 99, 32, 48, 32, 49, 32, 53, 10, 101, 110, 100, 32, 48]⟩, 3, 6, rfl, rfl, rfl, by decide +kernel, by decide, by decide⟩
  | 14, _ => exact ⟨⟨#[103, 114, 97, 112, 104, 32, 48, 32, 49, 10, 97, 114, 99, 32, 48, 32, 48, 32, 48]⟩, 2, 7, rfl, rfl, rfl, by decide +kernel, by decide, by decide⟩
  | 15, _ => exact ⟨⟨#[103, 114, 97, 112, 104, 32, 48, 32, 49, 10, 97, 114, 99, 32, 120, 32, 48, 32, 48]⟩, 2, 4, rfl, rfl, rfl, by decide +kernel, by decide, by decide⟩
  | 16, _ => exact ⟨⟨#[35, 10, 101, 110, 100]⟩, 2, 3, rfl, rfl, rfl, by decide +kernel, by decide, by decide⟩
  | 17, _ => exact ⟨⟨#[103, 114, 97, 112, 104, 32, 49, 32, 49, 10, 97, 114, 99, 32, 48, 32, 48, 32, 48]⟩, 2, 5, rfl, rfl, rfl, by decide +kernel, by decide, by decide⟩
  | n + 18, h => omega
theorem seen_pl {k c a : Int} {v : Value} {g : Nat} {w : World} (ht : IsTold w (c, [(k, a)]) v) (hg : w.heap[g]? = some (.cells #[.int .i64 k, .int .i64 a] 66)) (hH : HasType w) :
    Calls Tryd.prog 12 #[v, .agg #[.int .i64 c, .slice (some ⟨g, 0, none⟩) 1 1]] w fun r w' => r = .returned (.bool true) ∧ Below w.heap.size w w' :=
  seen_told (c, [(k, a)]) v (some ⟨g, 0, none⟩) 1 w ht (place_one hg).1 (by simp [maxLen]) hH
theorem seen_no {c : Int} {v : Value} {w : World} (ht : IsTold w (c, []) v) (hH : HasType w) :
    Calls Tryd.prog 12 #[v, .agg #[.int .i64 c, .slice none 0 0]] w fun r w' => r = .returned (.bool true) ∧ Below w.heap.size w w' :=
  seen_told (c, []) v none 0 w ht ⟨none, 0, rfl, fun j p hj => by simp at hj⟩ (Nat.zero_le _) hH
def litA : ByteArray := ⟨#[103, 114, 97, 112, 104, 32, 54, 53, 53, 51, 54, 32, 48, 32, 35, 32, 110, 111, 100, 101, 115, 10, 10, 101, 110, 100]⟩
def litB : ByteArray := ⟨#[103, 114, 97, 112, 104, 32, 50, 32, 49, 10, 32, 97, 114, 99, 32, 49, 32, 49, 32, 50, 49, 52, 55, 52, 56, 51, 54, 52, 55, 13, 10, 101, 110, 100]⟩
def litC : ByteArray := ⟨#[103, 114, 97, 112, 104, 32, 48, 32, 48, 10, 101, 110, 100, 10]⟩
theorem litA_ps : psE (bs litA) = (0, []) ∧ psG (bs litA) = (65536, []) := by decide +kernel
theorem litB_ps : psE (bs litB) = (0, []) ∧ psG (bs litB) = (2, [(1, 1, 2147483647)]) := by decide +kernel
theorem litC_pr : prS 0 [] = bs litC ∧ graphErr 0 [] = (0, []) := by
  have d0 : itoa 0 = [48] := by rw [itoa_dec (by decide)]; exact decDigits_one (by decide)
  have e : graphErr 0 [] = (0, []) := by decide
  refine ⟨?_, e⟩
  unfold prS
  rw [if_pos e]
  unfold prL prR txt
  simp [rowL, numL, gwd, ewd, d0]
  rfl
/-- a list of arcs as make lays it. -/
theorem made_arcs (n : Nat) : ∃ xs : List Arc3, xs.length = n ∧ (∀ a ∈ xs, a = (0, 0, 0)) ∧ ∀ (w : World) (B g : Nat), w.ownsRow B 54 3 (.slice (some ⟨g, 0, none⟩) n n) n (madeCells (Value.agg #[.int .i64 0, .int .i64 0, .int .i64 0]).cells (n * 3)).toList → HasArcs w (.slice (some ⟨g, 0, none⟩) xs.length n) xs := by
  refine ⟨List.replicate n (0, 0, 0), List.length_replicate, fun a ha => (List.mem_replicate.1 ha).2, fun w B g h => ?_⟩
  rw [List.length_replicate]
  have hz : ∀ q, q < n * 3 → w.cell? ⟨g, q, none⟩ = some (.int .i64 0) := fun q hq => by
    have e1 := h.cellAt q (by omega)
    rw [e1]
    have e2 : (madeCells (Value.agg #[.int .i64 0, .int .i64 0, .int .i64 0]).cells (n * 3)).toList[q]? = some (.int .i64 0) := by
      have e3 : (Value.agg #[.int .i64 0, .int .i64 0, .int .i64 0]).cells = #[Value.int .i64 0, .int .i64 0, .int .i64 0] := rfl
      rw [e3]
      unfold madeCells
      rw [Array.toList_map, List.getElem?_map, Array.toList_range, List.getElem?_range hq]
      show some (#[Value.int .i64 0, .int .i64 0, .int .i64 0][q % 3]!) = _
      have h3 : q % 3 < 3 := Nat.mod_lt _ (by decide)
      match q % 3, h3 with
      | 0, _ => rfl
      | 1, _ => rfl
      | 2, _ => rfl
      | k + 3, h => omega
    exact e2
  refine ⟨some ⟨g, 0, none⟩, n, by rw [List.length_replicate], fun j a hj => ?_⟩
  have hjn : j < n := by simpa using (List.getElem?_eq_some_iff.1 hj).1
  have ha : a = (0, 0, 0) := (List.mem_replicate.1 (List.mem_of_getElem? hj)).2
  subst ha
  have hgl : g < w.heap.size := by
    rcases Nat.lt_or_ge g w.heap.size with h' | h'
    · exact h'
    · have := hz (j * 3) (by omega)
      simp [World.cell?, Array.getElem?_eq_none h'] at this
  exact ⟨g, 0, rfl, hgl, by rw [Nat.zero_add]; exact hz _ (by omega), by rw [Nat.zero_add]; exact hz _ (by omega), by rw [Nat.zero_add]; exact hz _ (by omega)⟩
theorem zero_err {xs : List Arc3} (h : ∀ a ∈ xs, a = (0, 0, 0)) : (262144 < xs.length → graphErr 1 xs = (9, [])) ∧ (xs.length ≤ 262144 → graphErr 1 xs = (0, [])) := by
  constructor
  · intro hl
    unfold graphErr
    rw [if_pos (Or.inr (Or.inr hl))]
  · intro hl
    refine graph_iff.2 ⟨1, rfl, by decide, hl, fun a ha => ?_⟩
    rw [h a ha]
    exact ⟨by decide, by decide, by decide, by decide, by decide, by decide⟩
theorem err18 : graphErr 2 [(0, 1, 5), (0, 2, -1)] = (7, [(4, 1)]) ∧ graphErr 1 [(0, 0, -1)] = (8, [(4, 0)]) ∧ graphErr 65537 [] = (9, []) := by decide
theorem arcs_two {w : World} {g : Nat} {a b : Arc3} (hb : w.heap[g]? = some (.cells #[.int .i64 a.1, .int .i64 a.2.1, .int .i64 a.2.2, .int .i64 b.1, .int .i64 b.2.1, .int .i64 b.2.2] 54)) : HasArcs w (.slice (some ⟨g, 0, none⟩) 2 2) [a, b] := by
  refine ⟨_, _, rfl, fun j q hj => ?_⟩
  rcases j with _ | _ | j
  · simp at hj
    subst hj
    exact ⟨g, 0, rfl, (Array.getElem?_eq_some_iff.1 hb).1, by simp [World.cell?, hb], by simp [World.cell?, hb], by simp [World.cell?, hb]⟩
  · simp at hj
    subst hj
    exact ⟨g, 0, rfl, (Array.getElem?_eq_some_iff.1 hb).1, by simp [World.cell?, hb], by simp [World.cell?, hb], by simp [World.cell?, hb]⟩
  · simp at hj

set_option maxRecDepth 100000 in
set_option maxHeartbeats 32000000 in
theorem gfixed_calls (w : World) (hT : TabW w) (hH : HasType w) : Calls Tryd.prog 8 #[] w fun e w' => e = .returned (.bool true) ∧ Below w.heap.size w w' := by
  have HAW : Hid (Calls Tryd.prog 9 #[] w fun e w' => e = .returned (.bool true) ∧ Below w.heap.size w w') := awake3_calls w hT hH
  have HW : Hid (∀ wx, Below w.heap.size w wx → TabW wx ∧ HasType wx) := fun wx hx => ⟨hT.keep hx hT.lt, hH.keep hx hH.pos⟩
  clear hT hH
  go_enter Tryd.func8, Tryd.ntmps8
  go_wp2_with fail
  refine HAW.out.mono ?_
  rintro e y1 ⟨rfl, hy1⟩
  have HY1 : Hid (Below w.heap.size w y1) := hy1
  obtain ⟨gT, hgT⟩ : ∃ g, y1.heap.size = g := ⟨_, rfl⟩
  obtain ⟨gL, hgL⟩ : ∃ g, gT + 1 = g := ⟨_, rfl⟩
  obtain ⟨gC, hgC⟩ : ∃ g, gL + 1 = g := ⟨_, rfl⟩
  obtain ⟨W3, hW3⟩ : ∃ W3, ((y1.alloc (.cells cT 9)).alloc (.cells cL 3)).alloc (.cells cC 49) = W3 := ⟨_, rfl⟩
  have HW3 : Hid (((y1.alloc (.cells cT 9)).alloc (.cells cL 3)).alloc (.cells cC 49) = W3) := hW3
  have mT : W3.heap[gT]? = some (.cells cT 9) := by
    rw [← hW3, ← hgT]
    exact (Below.heap_alloc _ _ _ (by simp; omega)).trans ((Below.heap_alloc _ _ _ (by simp)).trans (heap_newG _ _))
  have mL : W3.heap[gL]? = some (.cells cL 3) := by
    have q := heap_newG (y1.alloc (.cells cT 9)) (.cells cL 3)
    rw [World.size_alloc, hgT, hgL] at q
    rw [← hW3]
    refine (Below.heap_alloc _ _ _ (by simp; omega)).trans q
  have mC : W3.heap[gC]? = some (.cells cC 49) := by
    have q := heap_newG ((y1.alloc (.cells cT 9)).alloc (.cells cL 3)) (.cells cC 49)
    rw [World.size_alloc, World.size_alloc, hgT, hgL, hgC, hW3] at q
    exact q
  have hb3 : Below w.heap.size w W3 := by
    rw [← hW3]
    exact ((hy1.alloc hy1.size _).alloc (by have := hy1.size; simp; omega) _).alloc (by have := hy1.size; simp; omega) _
  have HK3 : Hid (∀ wx, Below W3.heap.size W3 wx → Below w.heap.size w wx ∧ ∀ i, i < 18 → wx.cell? ⟨gT, i, none⟩ = cT[i]? ∧ wx.cell? ⟨gL, i, none⟩ = cL[i]? ∧ wx.cell? ⟨gC, i, none⟩ = cC[i]?) := fun wx hx => by
    refine ⟨hb3.trans (hx.mono hb3.size), fun i hi => ?_⟩
    have e1 := (hx.block _ (Array.getElem?_eq_some_iff.1 mT).1).trans mT
    have e2 := (hx.block _ (Array.getElem?_eq_some_iff.1 mL).1).trans mL
    have e3 := (hx.block _ (Array.getElem?_eq_some_iff.1 mC).1).trans mC
    exact ⟨by simp only [World.cell?, e1]; rfl, by simp only [World.cell?, e2]; rfl, by simp only [World.cell?, e3]; rfl⟩
  unfold cT cL cC at HW3
  clear hy1 HAW hW3 mT mL mC hb3
  go_upto_region 6 with fail
  rw [HW3.out]
  try rw [hgT]
  try rw [hgL]
  try rw [hgC]
  go_wp2_with fail
  go_loopw [30] (fun iv wr => ∃ i : Nat, i ≤ 18 ∧ iv = .int .i64 i ∧ Hid (Below W3.heap.size W3 wr)) (fun iv _ => 18 - (intOf iv).toNat)
  case atStart => exact ⟨0, by omega, rfl, Below.refl _ _⟩
  case round =>
    obtain ⟨i, hi, rfl, HR⟩ := hrel
    rcases Nat.lt_or_eq_of_le hi with h1 | h1
    · obtain ⟨s, ln, cd, t1, t2, t3, hps, hss, hcd⟩ := the_texts i h1
      obtain ⟨_, hcs⟩ := HK3.out wr HR.out
      obtain ⟨k1, k2, k3⟩ := hcs i h1
      have c0 : wr.cell? ⟨gT, i, none⟩ = some (.string s) := k1.trans t1
      have HLC : Hid (cL[i]? = some (.int .i64 ln) ∧ cC[i]? = some (.int .i64 cd) ∧ i < 18) := ⟨t2, t3, h1⟩
      have HPS : Hid (psE (bs s) = (cd, [(1, ln)])) := hps
      have i1 : decide ((i : Int) < 18) = true := by simp; omega
      have i2 : (0 : Int) ≤ (i : Int) := by omega
      have i3 : (i : Int) < 18 := by omega
      have HPA : Hid (Calls Tryd.prog 15 #[.string s] wr (PsA (bs s) wr)) := parse_calls s wr (by omega)
      clear hcs k1 k2 k3 t1 t2 t3 hps
      go_wp2_with fail
      refine HPA.out.mono ?_
      rintro e y5 ⟨u, ao, ac, rfl, htd, hy5, _⟩
      rw [HPS.out] at htd
      obtain ⟨G, hG⟩ : ∃ G, psG (bs s) = G := ⟨_, rfl⟩
      rw [hG]
      obtain ⟨W6, hW6⟩ : ∃ W6, y5.alloc (.cells #[.int .i64 (G.1 : Int), .slice ao G.2.length ac] 24) = W6 := ⟨_, rfl⟩
      have HW6 : Hid (y5.alloc (.cells #[.int .i64 (G.1 : Int), .slice ao G.2.length ac] 24) = W6) := hW6
      have hb6 : Below y5.heap.size y5 W6 := by rw [← hW6]; exact (Below.refl _ _).alloc (Nat.le_refl _) _
      have h36 : Below W3.heap.size W3 W6 := btrG (btrG HR.out hy5) hb6
      have HTD : Hid (∀ wx, Below W6.heap.size W6 wx → IsTold wx (cd, [(1, ln)]) u ∧ HasType wx) := fun wx hx => ⟨htd.keep (Below.keeps (btrG hb6 hx)), (HW.out wx (HK3.out wx (btrG h36 hx)).1).2⟩
      have HS : Hid (∀ wx, Below W6.heap.size W6 wx → (fun w' : World => w'.cell? ⟨gL, i, none⟩ = some (.int .i64 ln) ∧ w'.cell? ⟨gC, i, none⟩ = some (.int .i64 cd) ∧ Hid (Below W6.heap.size W6 w')) wx) := fun wx hx => by
        obtain ⟨k1, k2, k3⟩ := (HK3.out wx (btrG h36 hx)).2 i HLC.out.2.2
        exact ⟨k2.trans HLC.out.1, k3.trans HLC.out.2.1, (hx : Hid _)⟩
      have HEE : Hid (∀ wx, (fun w' : World => w'.cell? ⟨gL, i, none⟩ = some (.int .i64 ln) ∧ w'.cell? ⟨gC, i, none⟩ = some (.int .i64 cd) ∧ Hid (Below W6.heap.size W6 w')) wx → Calls Tryd.prog 20 #[.int .i64 cd] wx fun e w' => e = .returned (.agg #[.int .i64 cd, .slice none 0 0]) ∧ Below wx.heap.size wx w' ∧ (fun w' : World => w'.cell? ⟨gL, i, none⟩ = some (.int .i64 ln) ∧ w'.cell? ⟨gC, i, none⟩ = some (.int .i64 cd) ∧ Hid (Below W6.heap.size W6 w')) w') := fun wx hSx => by
        refine (E_calls cd wx).mono ?_
        rintro e w' ⟨rfl, hb⟩
        exact ⟨rfl, hb, HS.out w' (btrG hSx.2.2.out hb)⟩
      have H36 : Hid (Below W3.heap.size W3 W6) := h36
      clear htd hy5 hG hW6 hb6 h36 HPA c0
      go_upto_region 10 with fail
      rw [HW6.out]
      refine wp_region_M (S := (fun w' : World => w'.cell? ⟨gL, i, none⟩ = some (.int .i64 ln) ∧ w'.cell? ⟨gC, i, none⟩ = some (.int .i64 cd) ∧ Hid (Below W6.heap.size W6 w'))) (by kernel_rfl) (HS.out _ (Below.refl _ _).drew) ?_
      refine wpAnyM_take (i := 0) (oi := { dst := Option.some 40, op := Op.move (Operand.tmp 7), type := 27, pos := "law.go:156", after := #[], guard := Option.none }) (v := ?va1z0) rfl (by kernel_rfl) (by kernel_rfl) (by kernel_rfl) (fun _ _ _ h => h) (YieldsM.of_if (Or.inl ⟨by rfl, ?ha1z0⟩)) ?ra1z0
      case ha1z0 => ((intro wz hSw; (try dsimp only at hSw); go_simp); try (with_reducible rfl))
      try simp only [Act.put, List.setIfInBounds_toArray, List.set_cons_zero, List.set_cons_succ]
      refine wpAnyM_take (i := 1) (oi := { dst := Option.some 41, op := Op.move (Operand.tmp 2), type := 51, pos := "law.go:156", after := #[], guard := Option.none }) (v := ?va2z1) rfl (by kernel_rfl) (by kernel_rfl) (by kernel_rfl) (fun _ _ _ h => h) (YieldsM.of_if (Or.inl ⟨by rfl, ?ha2z1⟩)) ?ra2z1
      case ha2z1 => ((intro wz hSw; (try dsimp only at hSw); go_simp); try (with_reducible rfl))
      try simp only [Act.put, List.setIfInBounds_toArray, List.set_cons_zero, List.set_cons_succ]
      refine wpAnyM_take (i := 2) (oi := { dst := Option.some 42, op := Op.move (Operand.tmp 4), type := 3, pos := "law.go:156", after := #[], guard := Option.none }) (v := ?va3z2) rfl (by kernel_rfl) (by kernel_rfl) (by kernel_rfl) (fun _ _ _ h => h) (YieldsM.of_if (Or.inl ⟨by rfl, ?ha3z2⟩)) ?ra3z2
      case ha3z2 => ((intro wz hSw; (try dsimp only at hSw); go_simp); try (with_reducible rfl))
      try simp only [Act.put, List.setIfInBounds_toArray, List.set_cons_zero, List.set_cons_succ]
      refine wpAnyM_take (i := 3) (oi := { dst := Option.some 43, op := Op.indexAddr 51 (Operand.tmp 41) (Operand.tmp 42), type := 0, pos := "law.go:156", after := #[{ on := 1, ground := Ground.data }, { on := 2, ground := Ground.data }], guard := Option.none }) (v := ?va4z3) rfl (by kernel_rfl) (by kernel_rfl) (by kernel_rfl) (fun _ _ _ h => h) (YieldsM.of_if (Or.inl ⟨by rfl, ?ha4z3⟩)) ?ra4z3
      case ha4z3 => ((intro wz hSw; (try dsimp only at hSw); go_simp); try (with_reducible rfl))
      try simp only [Act.put, List.setIfInBounds_toArray, List.set_cons_zero, List.set_cons_succ]
      refine wpAnyM_take (i := 4) (oi := { dst := Option.some 44, op := Op.load 3 (Operand.tmp 43), type := 3, pos := "law.go:156", after := #[{ on := 3, ground := Ground.data }], guard := Option.none }) (v := ?va5z4) rfl (by kernel_rfl) (by kernel_rfl) (by kernel_rfl) (fun _ _ _ h => h) (YieldsM.of_if (Or.inl ⟨by rfl, ?ha5z4⟩)) ?ra5z4
      case ha5z4 => ((intro wz hSw; (try dsimp only at hSw); go_simp); try (with_reducible rfl))
      try simp only [Act.put, List.setIfInBounds_toArray, List.set_cons_zero, List.set_cons_succ]
      refine wpAnyM_take (i := 5) (oi := { dst := Option.some 45, op := Op.move (Operand.tmp 3), type := 52, pos := "law.go:156", after := #[], guard := Option.none }) (v := ?va6z5) rfl (by kernel_rfl) (by kernel_rfl) (by kernel_rfl) (fun _ _ _ h => h) (YieldsM.of_if (Or.inl ⟨by rfl, ?ha6z5⟩)) ?ra6z5
      case ha6z5 => ((intro wz hSw; (try dsimp only at hSw); go_simp); try (with_reducible rfl))
      try simp only [Act.put, List.setIfInBounds_toArray, List.set_cons_zero, List.set_cons_succ]
      refine wpAnyM_take (i := 6) (oi := { dst := Option.some 46, op := Op.move (Operand.tmp 4), type := 3, pos := "law.go:156", after := #[], guard := Option.none }) (v := ?va7z6) rfl (by kernel_rfl) (by kernel_rfl) (by kernel_rfl) (fun _ _ _ h => h) (YieldsM.of_if (Or.inl ⟨by rfl, ?ha7z6⟩)) ?ra7z6
      case ha7z6 => ((intro wz hSw; (try dsimp only at hSw); go_simp); try (with_reducible rfl))
      try simp only [Act.put, List.setIfInBounds_toArray, List.set_cons_zero, List.set_cons_succ]
      refine wpAnyM_take (i := 7) (oi := { dst := Option.some 47, op := Op.indexAddr 52 (Operand.tmp 45) (Operand.tmp 46), type := 0, pos := "law.go:156", after := #[{ on := 5, ground := Ground.data }, { on := 6, ground := Ground.data }], guard := Option.none }) (v := ?va8z7) rfl (by kernel_rfl) (by kernel_rfl) (by kernel_rfl) (fun _ _ _ h => h) (YieldsM.of_if (Or.inl ⟨by rfl, ?ha8z7⟩)) ?ra8z7
      case ha8z7 => ((intro wz hSw; (try dsimp only at hSw); go_simp); try (with_reducible rfl))
      try simp only [Act.put, List.setIfInBounds_toArray, List.set_cons_zero, List.set_cons_succ]
      refine wpAnyM_take (i := 8) (oi := { dst := Option.some 48, op := Op.load 49 (Operand.tmp 47), type := 49, pos := "law.go:156", after := #[{ on := 7, ground := Ground.data }], guard := Option.none }) (v := ?va9z8) rfl (by kernel_rfl) (by kernel_rfl) (by kernel_rfl) (fun _ _ _ h => h) (YieldsM.of_if (Or.inl ⟨by rfl, ?ha9z8⟩)) ?ra9z8
      case ha9z8 => ((intro wz hSw; (try dsimp only at hSw); go_simp); try (with_reducible rfl))
      try simp only [Act.put, List.setIfInBounds_toArray, List.set_cons_zero, List.set_cons_succ]
      refine wpAnyM_take (i := 9) (oi := { dst := Option.some 49, op := Op.call { callee := Callee.value (Operand.func 20), args := #[Operand.tmp 48], argTypes := #[49] }, type := 32, pos := "law.go:156", after := #[{ on := 8, ground := Ground.data }], guard := Option.none }) (v := (.agg #[.int .i64 cd, .slice none 0 0])) rfl (by kernel_rfl) (by kernel_rfl) (by kernel_rfl) (fun _ _ _ h => h) (YieldsM.of_call (f := 20) (by rfl) (fun _ _ => by kernel_rfl) (HEE.out)) ?_
      try simp only [Act.put, List.setIfInBounds_toArray, List.set_cons_zero, List.set_cons_succ]
      refine readyM (i := 10) (o := { dst := Option.some 50, op := Op.call { callee := Callee.value (Operand.func 19), args := #[Operand.const (Value.int IntKind.i64 1), Operand.tmp 44, Operand.tmp 49], argTypes := #[47, 3, 32] }, type := 32, pos := "law.go:156", after := #[{ on := 4, ground := Ground.data }, { on := 9, ground := Ground.data }, { on := 9, ground := Ground.chain }], guard := Option.none }) rfl (by kernel_rfl) ?_
      intro u1 hg1 hS1 K hK
      rw [if_pos (by rfl)]
      have b1 : Below W6.heap.size W6 u1 := hS1.2.2.out
      go_simp
      refine (refAt_calls 1 ln cd u1).mono ?_
      rintro e9 y7 ⟨p7, rfl, hp7, hy7⟩
      have b7 : Below W6.heap.size W6 y7 := btrG b1 hy7
      have H7 : Hid (y7.heap[p7]? = some (.cells #[.int .i64 1, .int .i64 ln] 66) ∧ Below W6.heap.size W6 y7) := ⟨hp7, b7⟩
      refine hK.out _ _ (HS.out _ b7) ?_
      clear hK K hg1 hS1 b1 hy7 hp7 b7
      try simp only [Act.put, List.setIfInBounds_toArray, List.set_cons_zero, List.set_cons_succ]
      refine readyM (i := 11) (o := { dst := Option.some 51, op := Op.call { callee := Callee.value (Operand.func 12), args := #[Operand.tmp 40, Operand.tmp 50], argTypes := #[27, 32] }, type := 4, pos := "law.go:156", after := #[{ on := 0, ground := Ground.data }, { on := 10, ground := Ground.data }, { on := 10, ground := Ground.chain }], guard := Option.none }) rfl (by kernel_rfl) ?_
      intro u2 hg2 hS2 K hK
      rw [if_pos (by rfl)]
      have b2 : Below W6.heap.size W6 u2 := hS2.2.2.out
      have t2 := seen_pl (k := 1) (HTD.out u2 b2).1 ((Below.block hg2 _ (Array.getElem?_eq_some_iff.1 H7.out.1).1).trans H7.out.1) (HTD.out u2 b2).2
      go_simp
      refine t2.mono ?_
      rintro e9 y8 ⟨rfl, hy8⟩
      have b8 : Below W6.heap.size W6 y8 := btrG b2 hy8
      refine hK.out _ _ (HS.out _ b8) ?_
      clear hK K hg2 hS2 b2 hy8 t2 H7
      try simp only [Act.put, List.setIfInBounds_toArray, List.set_cons_zero, List.set_cons_succ]
      refine wpAnyM_take (i := 12) (oi := { dst := Option.some 52, op := Op.unOp UnOp.not 4 (Operand.tmp 51), type := 4, pos := "law.go:156", after := #[{ on := 11, ground := Ground.data }], guard := Option.none }) (v := ?vc10z12) rfl (by kernel_rfl) (by kernel_rfl) (by kernel_rfl) (fun _ _ _ h => h) (YieldsM.of_if (Or.inl ⟨by rfl, ?hc10z12⟩)) ?rc10z12
      case hc10z12 => ((intro wz hSw; (try dsimp only at hSw); go_simp); try (with_reducible rfl))
      try simp only [Act.put, List.setIfInBounds_toArray, List.set_cons_zero, List.set_cons_succ]
      refine wpAnyM_done (by kernel_rfl) ?_ _
      intro u9 hg9 hS9
      have HN : Hid (Below W3.heap.size W3 u9) := btrG H36.out hS9.2.2.out
      clear hS9 hg9 HEE HS
      go_wp2_with fail
      go_roundw
      case rel => exact ⟨i + 1, by omega, by rw [show (i : Int) + 1 = ((i + 1 : Nat) : Int) by omega], HN⟩
      case measure => simp only [intOf]; omega
    · have i1 : decide ((i : Int) < 18) = false := by simp; omega
      have HBW : Hid (Below w.heap.size w wr) := (HK3.out wr HR.out).1
      have HPA : Hid (Calls Tryd.prog 15 #[.string litA] wr (PsA (bs litA) wr)) := parse_calls litA wr (by decide)
      unfold litA at HPA
      go_wp2_with fail
      refine HPA.out.mono ?_
      rintro e y2 ⟨v2, ao, ac, rfl, htd, hy2, _⟩
      have hpE := litA_ps.1
      have hpG := litA_ps.2
      unfold litA at hpE hpG
      rw [hpE] at htd
      rw [hpG]
      obtain rfl := told_nil htd
      obtain ⟨zA, hzA⟩ : ∃ z, y2.heap.size = z := ⟨_, rfl⟩
      obtain ⟨WA, hWA⟩ : ∃ W, y2.alloc (.cells #[.int .i64 65536, .slice ao 0 ac] 24) = W := ⟨_, rfl⟩
      have HWA : Hid (y2.alloc (.cells #[.int .i64 65536, .slice ao 0 ac] 24) = WA) := hWA
      have mA : WA.heap[zA]? = some (.cells #[.int .i64 65536, .slice ao 0 ac] 24) := by rw [← hWA, ← hzA]; exact heap_newG _ _
      have hbA : Below y2.heap.size y2 WA := by rw [← hWA]; exact (Below.refl _ _).alloc (Nat.le_refl _) _
      have HA : Hid (Below w.heap.size w WA ∧ WA.heap[zA]? = some (.cells #[.int .i64 65536, .slice ao 0 ac] 24)) := ⟨btrG (btrG HBW.out hy2) hbA, mA⟩
      have HPB : Hid (Calls Tryd.prog 15 #[.string litB] WA (PsA (bs litB) WA)) := parse_calls litB WA (by decide)
      unfold litB at HPB
      clear htd hy2 hpE hpG hWA mA hbA HPA
      go_upto_region 14 with fail
      try simp only [List.length_nil]
      rw [HWA.out]
      try rw [hzA]
      go_wp2_with fail
      refine HPB.out.mono ?_
      rintro e y3 ⟨v3, bo, bc, rfl, htd, hy3, hown⟩
      have hpE := litB_ps.1
      have hpG := litB_ps.2
      unfold litB at hpE hpG
      rw [hpE] at htd
      rw [hpG] at hown ⊢
      obtain rfl := told_nil htd
      have hB : HasArcs y3 (.slice bo 1 bc) [(1, 1, 2147483647)] := arcs_of hown
      obtain ⟨zB, hzB⟩ : ∃ z, y3.heap.size = z := ⟨_, rfl⟩
      obtain ⟨WB, hWB⟩ : ∃ W, y3.alloc (.cells #[.int .i64 2, .slice bo 1 bc] 24) = W := ⟨_, rfl⟩
      have HWB : Hid (y3.alloc (.cells #[.int .i64 2, .slice bo 1 bc] 24) = WB) := hWB
      have mB : WB.heap[zB]? = some (.cells #[.int .i64 2, .slice bo 1 bc] 24) := by rw [← hWB, ← hzB]; exact heap_newG _ _
      have hbB : Below y3.heap.size y3 WB := by rw [← hWB]; exact (Below.refl _ _).alloc (Nat.le_refl _) _
      have HB : Hid (∀ wx, Below WB.heap.size WB wx → Below w.heap.size w wx ∧ wx.cell? ⟨zA, 0, none⟩ = some (.int .i64 65536) ∧ wx.cell? ⟨zB, 0, none⟩ = some (.int .i64 2) ∧ wx.cell? ⟨zB, 1, none⟩ = some (.slice bo 1 bc) ∧ HasArcs wx (.slice bo 1 bc) [(1, 1, 2147483647)]) := fun wx hx => by
        have h1 := btrG (btrG hy3 hbB) hx
        have e1 := (h1.block _ (Array.getElem?_eq_some_iff.1 HA.out.2).1).trans HA.out.2
        have e2 := (hx.block _ (Array.getElem?_eq_some_iff.1 mB).1).trans mB
        exact ⟨btrG HA.out.1 h1, by simp [World.cell?, e1], by simp [World.cell?, e2], by simp [World.cell?, e2], hB.keep (btrG hbB hx)⟩
      have HPC : Hid (Calls Tryd.prog 10 #[.agg #[.int .i64 0, .slice none 0 0]] WB (PrA 0 [] WB)) := print_calls 0 none 0 [] WB (no_arcs WB) (by decide) (HW.out WB (HB.out WB (Below.refl _ _)).1).1
      clear htd hy3 hown hpE hpG hB hWB mB hbB HPB
      go_upto_region 15 with fail
      try simp only [List.length_cons, List.length_nil, Nat.zero_add]
      rw [HWB.out]
      try rw [hzB]
      go_wp2_with fail
      refine HPC.out.mono ?_
      rintro e y4 ⟨s4, v4, rfl, hs4, htd, hy4⟩
      rw [litC_pr.2] at htd
      obtain rfl := told_nil htd
      obtain rfl : s4 = litC := bs_inj (hs4.trans litC_pr.1)
      have HY4 : Hid (Below WB.heap.size WB y4) := hy4
      obtain ⟨_, c0, c1, c2, hB4⟩ := HB.out y4 hy4
      have HBA : Hid (HasArcs y4 (.slice bo 1 bc) [(1, 1, 2147483647)]) := hB4
      unfold litC
      clear htd hs4 hy4 hB4 HPC
      go_wp2_with fail
      refine (same_yes 2 _ _ 1 1 _ _ [(1, 1, 2147483647)] _ (HBA.out.keep ((Below.refl _ _).alloc (Nat.le_refl _) _)) (new_arcs (a := (1, 1, 2147483647))) (by decide)).mono ?_
      rintro e y6 ⟨rfl, hy6⟩
      have H6 : Hid (Below WB.heap.size WB y6) := btrG HY4.out (btrG ((Below.refl _ y4).alloc (Nat.le_refl _) _) hy6)
      clear hy6 c0 c1 c2
      go_wp2_with fail
      refine (check_calls 2 _ _ [(0, 1, 5), (0, 2, -1)] _ (arcs_two (a := (0, 1, 5)) (b := (0, 2, -1)) (heap_newG _ _)) (by decide)).mono ?_
      rintro e y7 ⟨v7, rfl, ht7, hy7⟩
      rw [err18.1] at ht7
      have H7 : Hid (Below WB.heap.size WB y7 ∧ IsTold y7 (7, [(4, 1)]) v7) := ⟨btrG H6.out (btrG ((Below.refl _ y6).alloc (Nat.le_refl _) _) hy7), ht7⟩
      clear hy7 ht7
      go_wp2_with fail
      refine (check_calls 1 _ _ [(0, 0, -1)] _ (new_arcs (a := (0, 0, -1))) (by decide)).mono ?_
      rintro e y8 ⟨v8, rfl, ht8, hy8⟩
      rw [err18.2.1] at ht8
      have h78 : Below y7.heap.size y7 y8 := btrG ((Below.refl _ y7).alloc (Nat.le_refl _) _) hy8
      have H8 : Hid (Below WB.heap.size WB y8 ∧ IsTold y8 (7, [(4, 1)]) v7 ∧ IsTold y8 (8, [(4, 0)]) v8) := ⟨btrG H7.out.1 h78, H7.out.2.keep (Below.keeps h78), ht8⟩
      obtain ⟨i0, hi9, hzz⟩ := Option.map_eq_some_iff.1 infoArc
      simp only [Prod.mk.injEq] at hzz
      have HI0 : Hid (Tryd.prog.info? 54 = some i0 ∧ i0.zero = some (.agg #[.int .i64 0, .int .i64 0, .int .i64 0]) ∧ i0.size = 3 ∧ i0.bytes = 24) := ⟨hi9, hzz⟩
      have MK : ∀ (n : Nat) (y : World), n ≤ 300000 → ∃ wm, (Instr.makeSlice 22 (.int .i64 (n : Int)) (.int .i64 (n : Int))).run Tryd.prog y = .ok (.slice (some ⟨y.heap.size, 0, none⟩) n n) wm ∧ Below y.heap.size y wm ∧ ∃ xs : List Arc3, xs.length = n ∧ (∀ a ∈ xs, a = (0, 0, 0)) ∧ HasArcs wm (.slice (some ⟨y.heap.size, 0, none⟩) xs.length n) xs := fun n y hn => by
        obtain ⟨wm, hrun, ho, hgr⟩ := run_make_full (P := Tryd.prog) y y.heap.size 22 54 i0 (.agg #[.int .i64 0, .int .i64 0, .int .i64 0]) 3 Tryd.underlying22 HI0.out.1 HI0.out.2.1 HI0.out.2.2.1 .i64 .i64 n (by rw [HI0.out.2.2.2]; omega) (by unfold maxLen; omega) (Nat.le_refl _)
        obtain ⟨xs, hxl, hxz, hxa⟩ := made_arcs n
        exact ⟨wm, hrun, ⟨hgr.os, hgr.tape, hgr.output, hgr.size, fun k hk => hgr.block k hk (by simp)⟩, xs, hxl, hxz, hxa wm _ _ ho⟩
      have HMK : Hid (type_of% MK) := MK
      obtain ⟨wm, hrun, hbm, xs, hxl, hxz, hxa⟩ := MK 262145 y8 (by omega)
      have hmk : (Instr.makeSlice 22 (.int .i64 262145) (.int .i64 262145)).run Tryd.prog y8 = .ok (.slice (some ⟨y8.heap.size, 0, none⟩) 262145 262145) wm := hrun
      have HCM : Hid (Calls Tryd.prog 13 #[.agg #[.int .i64 1, .slice (some ⟨y8.heap.size, 0, none⟩) 262145 262145]] wm fun e w' => ∃ v, e = .returned v ∧ IsTold w' (9, []) v ∧ Below wm.heap.size wm w') := by
        have h := check_calls 1 (some ⟨y8.heap.size, 0, none⟩) 262145 xs wm hxa (by rw [hxl]; unfold maxLen; omega)
        rw [(zero_err hxz).1 (by rw [hxl]; omega), hxl] at h
        exact h
      have HBM : Hid (Below y8.heap.size y8 wm) := hbm
      clear hy8 ht8 h78 hi9 hzz MK hrun hbm hxl hxz hxa
      go_wp2_with fail
      refine HCM.out.mono ?_
      rintro e y10 ⟨v10, rfl, ht10, hy10⟩
      have h8x : Below y8.heap.size y8 y10 := btrG HBM.out hy10
      have HV : Hid (∀ wx, Below y10.heap.size y10 wx → IsTold wx (7, [(4, 1)]) v7 ∧ IsTold wx (8, [(4, 0)]) v8 ∧ IsTold wx (9, []) v10 ∧ HasType wx ∧ Below w.heap.size w wx) := fun wx hx => by
        have h1 := btrG h8x hx
        have hw := (HB.out wx (btrG H8.out.1 h1)).1
        exact ⟨H8.out.2.1.keep (Below.keeps h1), H8.out.2.2.keep (Below.keeps h1), ht10.keep (Below.keeps hx), (HW.out wx hw).2, hw⟩
      clear hmk ht10 hy10 h8x HCM
      go_wp2_with fail
      refine (E_calls 7 y10).mono ?_
      rintro e y11 ⟨rfl, hy11⟩
      have H11 : Hid (Below y10.heap.size y10 y11) := hy11
      clear hy11
      go_wp2_with fail
      refine (refAt_calls 4 1 7 y11).mono ?_
      rintro e y12 ⟨p12, rfl, hp12, hy12⟩
      have H12 : Hid (Below y10.heap.size y10 y12) := btrG H11.out hy12
      have HS12 := seen_pl (HV.out y12 H12.out).1 hp12 (HV.out y12 H12.out).2.2.2.1
      have HSA : Hid (Calls Tryd.prog 12 #[v7, .agg #[.int .i64 7, .slice (some ⟨p12, 0, none⟩) 1 1]] y12 fun r w' => r = .returned (.bool true) ∧ Below y12.heap.size y12 w') := HS12
      clear hy12 hp12 HS12
      go_wp2_with fail
      refine HSA.out.mono ?_
      rintro e y13 ⟨rfl, hy13⟩
      have H13 : Hid (Below y10.heap.size y10 y13) := btrG H12.out hy13
      clear hy13 HSA
      go_wp2_with fail
      refine (E_calls 8 y13).mono ?_
      rintro e y14 ⟨rfl, hy14⟩
      have H14 : Hid (Below y10.heap.size y10 y14) := btrG H13.out hy14
      clear hy14
      go_wp2_with fail
      refine (refAt_calls 4 0 8 y14).mono ?_
      rintro e y15 ⟨p15, rfl, hp15, hy15⟩
      have H15 : Hid (Below y10.heap.size y10 y15) := btrG H14.out hy15
      have HS15 := seen_pl (HV.out y15 H15.out).2.1 hp15 (HV.out y15 H15.out).2.2.2.1
      have HSB : Hid (Calls Tryd.prog 12 #[v8, .agg #[.int .i64 8, .slice (some ⟨p15, 0, none⟩) 1 1]] y15 fun r w' => r = .returned (.bool true) ∧ Below y15.heap.size y15 w') := HS15
      clear hy15 hp15 HS15
      go_wp2_with fail
      refine HSB.out.mono ?_
      rintro e y16 ⟨rfl, hy16⟩
      have H16 : Hid (Below y10.heap.size y10 y16) := btrG H15.out hy16
      clear hy16 HSB
      go_wp2_with fail
      refine (E_calls 9 y16).mono ?_
      rintro e y17 ⟨rfl, hy17⟩
      have H17 : Hid (Below y10.heap.size y10 y17) := btrG H16.out hy17
      have HSC : Hid (Calls Tryd.prog 12 #[v10, .agg #[.int .i64 9, .slice none 0 0]] y17 fun r w' => r = .returned (.bool true) ∧ Below y17.heap.size y17 w') := seen_no (HV.out y17 H17.out).2.2.1 (HV.out y17 H17.out).2.2.2.1
      clear hy17
      go_wp2_with fail
      refine HSC.out.mono ?_
      rintro e y18 ⟨rfl, hy18⟩
      have H18 : Hid (Below y10.heap.size y10 y18) := btrG H17.out hy18
      obtain ⟨wm2, hrun, hbm, xs2, hxl, hxz, hxa⟩ := HMK.out 262144 y18 (by omega)
      have hmk : (Instr.makeSlice 22 (.int .i64 262144) (.int .i64 262144)).run Tryd.prog y18 = .ok (.slice (some ⟨y18.heap.size, 0, none⟩) 262144 262144) wm2 := hrun
      have HCM2 : Hid (Calls Tryd.prog 13 #[.agg #[.int .i64 1, .slice (some ⟨y18.heap.size, 0, none⟩) 262144 262144]] wm2 fun e w' => ∃ v, e = .returned v ∧ IsTold w' (0, []) v ∧ Below wm2.heap.size wm2 w') := by
        have h := check_calls 1 (some ⟨y18.heap.size, 0, none⟩) 262144 xs2 wm2 hxa (by rw [hxl]; unfold maxLen; omega)
        rw [(zero_err hxz).2 (by rw [hxl]; omega), hxl] at h
        exact h
      have H19 : Hid (Below y10.heap.size y10 wm2) := btrG H18.out hbm
      clear hy18 HSC hrun hbm hxl hxz hxa
      go_wp2_with fail
      refine HCM2.out.mono ?_
      rintro e y20 ⟨v20, rfl, ht20, hy20⟩
      obtain rfl := told_nil ht20
      have H20 : Hid (Below y10.heap.size y10 y20) := btrG H19.out hy20
      clear hmk ht20 hy20 HCM2
      go_wp2_with fail
      refine (check_calls 65537 none 0 [] y20 (no_arcs y20) (by decide)).mono ?_
      rintro e y21 ⟨v21, rfl, ht21, hy21⟩
      rw [err18.2.2] at ht21
      have H21 : Hid (Below y10.heap.size y10 y21 ∧ IsTold y21 (9, []) v21) := ⟨btrG H20.out hy21, ht21⟩
      clear hy21 ht21
      go_wp2_with fail
      refine (E_calls 9 y21).mono ?_
      rintro e y22 ⟨rfl, hy22⟩
      have H22 : Hid (Below y10.heap.size y10 y22) := btrG H21.out.1 hy22
      have HSD : Hid (Calls Tryd.prog 12 #[v21, .agg #[.int .i64 9, .slice none 0 0]] y22 fun r w' => r = .returned (.bool true) ∧ Below y22.heap.size y22 w') := seen_no (H21.out.2.keep (Below.keeps hy22)) (HV.out y22 H22.out).2.2.2.1
      clear hy22
      go_wp2_with fail
      refine HSD.out.mono ?_
      rintro e y23 ⟨rfl, hy23⟩
      have H23 : Hid (Below w.heap.size w y23) := (HV.out y23 (btrG H22.out hy23)).2.2.2.2
      clear hy23 HSD
      go_wp2
      go_ret
      exact ⟨rfl, H23.out⟩
end Go.Proofs.YtghbekpilhnkfaaDoor.Gt
