/- hier.turnChildren on a row of one's own. -/
import Derived.Test.YtkehpmbnbknpfaaHsD
import Derived.Test.YtkehpmbnbknpfaaHrJ
import Derived.Laws.OwnMore
import Derived.Deep.RegionHeld3
namespace Go.Proofs.Ytkehpmbnbknpfaa.Hi
open Go.RowKit Go.Extern Go.Shelf

attribute [local go_sem] Oper.semAt_some

/-- a link turned about, in a hierarchy that had p up links and q down links. -/
def turnL (p q : Nat) (l : Lk) : Lk := if l.plain then l else ⟨l.hd, l.wt, q + l.rt, l.lf - p⟩
/-- nothing but the block g is written. -/
structure Touch (w w' : World) (g : Nat) : Prop where
  os : w'.os = w.os
  tape : w'.tape = w.tape
  output : w'.output = w.output
  size : w.heap.size ≤ w'.heap.size
  block : ∀ k, k < w.heap.size → k ≠ g → w'.heap[k]? = w.heap[k]?
theorem Touch.refl (w : World) (g : Nat) : Touch w w g := ⟨rfl, rfl, rfl, Nat.le_refl _, fun _ _ _ => rfl⟩
theorem Touch.below {w w' w2 : World} {g : Nat} (h : Touch w w' g) (hb : Below w'.heap.size w' w2) : Touch w w2 g :=
  ⟨hb.os.trans h.os, hb.tape.trans h.tape, hb.output.trans h.output, Nat.le_trans h.size hb.size, fun k hk hg => (hb.block k (Nat.lt_of_lt_of_le hk h.size)).trans (h.block k hk hg)⟩
theorem Touch.set {w w' : World} {g : Nat} (h : Touch w w' g) (i : Nat) (v : Value) : Touch w (w'.setCell ⟨g, i, none⟩ v) g :=
  ⟨h.os, h.tape, h.output, by simpa [World.setCell] using h.size, fun k hk hg => by
    have : (w'.setCell ⟨g, i, none⟩ v).heap[k]? = w'.heap[k]? := by simp only [World.setCell, Array.getElem?_modify, if_neg (fun e => hg (Eq.symm e))]
    exact this.trans (h.block k hk hg)⟩
theorem lvs_set2 : ∀ (L : List Lk) (k : Nat) (l : Lk) (x y : Nat), L[k]? = some l → ((lvs L).set (k * 4 + 2) (.int .u32 (x : Int))).set (k * 4 + 3) (.int .u32 (y : Int)) = lvs (L.set k ⟨l.hd, l.wt, x, y⟩)
  | [], k, l, x, y, h => by simp at h
  | a :: r, 0, l, x, y, h => by
    simp at h
    subst h
    simp [lvs]
  | a :: r, k + 1, l, x, y, h => by
    have ih := lvs_set2 r k l x y (by simpa using h)
    have e : ∀ r, lvs (a :: r) = [.int .u32 (a.hd : Int), .int .u64 (a.wt : Int), .int .u32 (a.lf : Int), .int .u32 (a.rt : Int)] ++ lvs r := fun r => by simp [lvs]
    rw [List.set_cons_succ, e, e, ← ih, List.set_append_right _ _ (by simp; omega), List.set_append_right _ _ (by simp; omega)]
    congr 2
    · congr 1
      · simp; omega
    · simp; omega
/-- the row when k links are turned. -/
def turnK (p q k : Nat) (L : List Lk) : List Lk := (L.take k).map (turnL p q) ++ L.drop k
theorem turnK_len (p q k : Nat) (L : List Lk) : (turnK p q k L).length = L.length := by simp [turnK]; omega
theorem turnK_get {p q k : Nat} {L : List Lk} {l : Lk} (h : L[k]? = some l) : (turnK p q k L)[k]? = some l := by
  have hk := (List.getElem?_eq_some_iff.1 h).1
  unfold turnK
  rw [List.getElem?_append_right (by simp; omega), List.getElem?_drop]
  simp
  rw [show k + (k - min k L.length) = k by omega]
  exact h
theorem turnK_step {p q k : Nat} {L : List Lk} {l : Lk} (h : L[k]? = some l) : turnK p q (k + 1) L = (turnK p q k L).set k (turnL p q l) := by
  have hk := (List.getElem?_eq_some_iff.1 h).1
  apply List.ext_getElem?
  intro i
  unfold turnK
  rw [List.take_add_one, h]
  rcases Nat.lt_trichotomy i k with h1 | h1 | h1
  · rw [List.getElem?_set_ne (by omega), List.getElem?_append_left (by simp; omega), List.getElem?_append_left (by simp; omega), List.map_append, List.getElem?_append_left (by simp; omega)]
  · subst h1
    rw [List.getElem?_set_self (by simp; omega), List.getElem?_append_left (by simp; omega), List.map_append, List.getElem?_append_right (by simp; omega)]
    simp [Nat.min_eq_left (Nat.le_of_lt hk)]
  · rw [List.getElem?_set_ne (by omega), List.getElem?_append_right (by simp; omega), List.getElem?_append_right (by simp; omega), List.getElem?_drop, List.getElem?_drop]
    simp
    congr 1
    omega
theorem turnK_all (p q : Nat) (L : List Lk) : turnK p q L.length L = L.map (turnL p q) := by simp [turnK]
theorem turnK_zero (p q : Nat) (L : List Lk) : turnK p q 0 L = L := by simp [turnK]

set_option maxRecDepth 100000 in
set_option maxHeartbeats 4000000 in
theorem turnC_calls (g cap p q B : Nat) (L : List Lk) (w : World) (ho : w.ownsRow B 47 4 (.slice (some ⟨g, 0, none⟩) L.length cap) L.length (lvs L)) (hok : ∀ l ∈ L, l.ok) (hp : ∀ l ∈ L, l.plain = false → p ≤ l.lf ∧ q + l.rt < 4294967296) (hn : L.length ≤ 1048576) :
    Calls Try.prog 25 #[.slice (some ⟨g, 0, none⟩) L.length cap, .int .u32 (p : Int), .int .u32 (q : Int)] w fun e w' => e = .returned (.tuple #[]) ∧ w'.ownsRow B 47 4 (.slice (some ⟨g, 0, none⟩) L.length cap) L.length (lvs (L.map (turnL p q))) ∧ Touch w w' g := by
  have HO : Hid (w.ownsRow B 47 4 (.slice (some ⟨g, 0, none⟩) L.length cap) L.length (lvs (turnK p q 0 L))) := by rw [turnK_zero]; exact ho
  have HG : Hid (g < w.heap.size) := (ho.lt g rfl).2
  have HP : Hid (∀ l ∈ L, l.ok ∧ (l.plain = false → p ≤ l.lf ∧ q + l.rt < 4294967296)) := fun l hl => ⟨hok l hl, hp l hl⟩
  clear ho hok hp
  go_enter Try.func25, Try.ntmps25
  go_wp2_with fail
  go_loopw [10] (fun iv wr => ∃ k : Nat, k ≤ L.length ∧ iv = .int .i64 k ∧ Hid (wr.ownsRow B 47 4 (.slice (some ⟨g, 0, none⟩) L.length cap) L.length (lvs (turnK p q k L))) ∧ Hid (Touch w wr g)) (fun iv _ => L.length - (intOf iv).toNat)
  case atStart => exact ⟨0, Nat.zero_le _, rfl, HO.out, Touch.refl _ _⟩
  case round =>
    obtain ⟨k, hk, rfl, HR, HT⟩ := hrel
    by_cases hlt : k < L.length
    · obtain ⟨l, hl⟩ : ∃ l, L[k]? = some l := ⟨L[k], List.getElem?_eq_getElem hlt⟩
      have HL : Hid (L[k]? = some l) := hl
      obtain ⟨⟨o1, o2, o3, o4⟩, hpp⟩ := HP.out l (List.mem_of_getElem? hl)
      obtain ⟨g0, g1, g2, g3⟩ := lvs_get _ k l (turnK_get (p := p) (q := q) hl)
      have c0 := (HR.out.cellAt (k * 4) (by omega)).trans g0
      have c1 := (HR.out.cellAt (k * 4 + 1) (by omega)).trans g1
      have c2 := (HR.out.cellAt (k * 4 + 2) (by omega)).trans g2
      have c3 := (HR.out.cellAt (k * 4 + 3) (by omega)).trans g3
      have HGW : Hid (g < wr.heap.size) := Nat.lt_of_lt_of_le HG.out HT.out.size
      have i1 : (k : Int) < (L.length : Int) := by omega
      have i2 : (0 : Int) ≤ (k : Int) := by omega
      clear hl g0 g1 g2 g3
      go_wp2_with fail
      obtain ⟨y, hy⟩ : ∃ y, wr.heap.size = y := ⟨_, rfl⟩
      obtain ⟨W1, hW1⟩ : ∃ W1, wr.alloc (.cells #[.int .u32 (l.hd : Int), .int .u64 (l.wt : Int), .int .u32 (l.lf : Int), .int .u32 (l.rt : Int)] 47) = W1 := ⟨_, rfl⟩
      have HW1 : Hid (∀ wx, Below W1.heap.size W1 wx → (wx.cell? ⟨y, 0, none⟩ = some (.int .u32 (l.hd : Int)) ∧ wx.cell? ⟨y, 1, none⟩ = some (.int .u64 (l.wt : Int)) ∧ wx.cell? ⟨y, 2, none⟩ = some (.int .u32 (l.lf : Int)) ∧ wx.cell? ⟨y, 3, none⟩ = some (.int .u32 (l.rt : Int))) ∧ wx.ownsRow B 47 4 (.slice (some ⟨g, 0, none⟩) L.length cap) L.length (lvs (turnK p q k L)) ∧ Touch w wx g) := fun wx hx => by
        have f1 : W1.heap[y]? = some (.cells #[.int .u32 (l.hd : Int), .int .u64 (l.wt : Int), .int .u32 (l.lf : Int), .int .u32 (l.rt : Int)] 47) := by rw [← hW1, ← hy]; exact heap_newW _ _
        have f2 : Below wr.heap.size wr W1 := by rw [← hW1]; exact (Below.refl _ _).alloc (Nat.le_refl _) _
        have f3 := (hx.block _ (some_lt f1)).trans f1
        have f4 : Below wr.heap.size wr wx := f2.trans (hx.mono f2.size)
        refine ⟨⟨by simp [World.cell?, f3], by simp [World.cell?, f3], by simp [World.cell?, f3], by simp [World.cell?, f3]⟩, own_keep HR.out (fun k cur e hh => ?_), HT.out.below f4⟩
        exact (f4.block k (some_lt hh)).trans hh
      have hgy : g ≠ y := by have := HGW.out; omega
      have hyg : y ≠ g := hgy.symm
      rw [hW1, hy]
      clear hy hW1 c0 c1 c2 c3
      have hpl := plain_calls l W1
      unfold lvl at hpl
      refine hpl.mono ?_
      rintro e w7 ⟨rfl, hb7⟩
      have HB7 : Hid (Below W1.heap.size W1 w7) := hb7
      clear hb7 hpl
      by_cases hp : l.plain = true
      · have HS : Hid (turnK p q (k + 1) L = turnK p q k L) := by
          show _ = _
          rw [turnK_step HL.out]
          unfold turnL
          rw [if_pos hp]
          apply List.ext_getElem?
          intro i
          by_cases e : k = i
          · subst e; rw [List.getElem?_set_self (by rw [turnK_len]; exact hlt), turnK_get HL.out]
          · rw [List.getElem?_set_ne e]
        rw [hp]
        go_wp2
        go_roundw
        case rel => exact ⟨k + 1, by omega, by go_num, by rw [HS.out]; exact (HW1.out w7 HB7.out).2.1, (HW1.out w7 HB7.out).2.2⟩
        case measure => simp [intOf]; omega
      · have hp' : l.plain = false := by simpa using hp
        obtain ⟨s1, s2⟩ := hpp hp'
        have HS : Hid (turnK p q (k + 1) L = (turnK p q k L).set k ⟨l.hd, l.wt, q + l.rt, l.lf - p⟩) := by
          show _ = _
          rw [turnK_step HL.out]
          unfold turnL
          rw [if_neg hp]
        rw [hp']
        have x1 : IntKind.u32.wrap ((q : Int) + (l.rt : Int)) = ((q + l.rt : Nat) : Int) := by rw [IntKind.wrap_u32]; omega
        have x2 : IntKind.u32.wrap ((l.lf : Int) - (p : Int)) = ((l.lf - p : Nat) : Int) := by rw [IntKind.wrap_u32]; omega
        obtain ⟨⟨e0, e1, e2, e3⟩, hO7, hT7⟩ := HW1.out w7 HB7.out
        obtain ⟨g0, g1, g2, g3⟩ := lvs_get _ k l (turnK_get (p := p) (q := q) HL.out)
        have c2 := (hO7.cellAt (k * 4 + 2) (by omega)).trans g2
        have c3 := (hO7.cellAt (k * 4 + 3) (by omega)).trans g3
        have z2 := hO7.frozenAt (k * 4 + 2)
        have z3 := hO7.frozenAt (k * 4 + 3)
        have HO7 : Hid (w7.ownsRow B 47 4 (.slice (some ⟨g, 0, none⟩) L.length cap) L.length (lvs (turnK p q k L)) ∧ Touch w w7 g) := ⟨hO7, hT7⟩
        clear g0 g1 g2 g3 hp hp' hpp hO7 hT7
        generalize q + l.rt = nr at *
        generalize l.lf - p = nl at *
        go_wp2_with fail
        go_region_held3 (fun w' => w'.cell? ⟨y, 2, none⟩ = some (.int .u32 (l.lf : Int)) ∧ w'.cell? ⟨y, 3, none⟩ = some (.int .u32 (l.rt : Int))) (go_keep) (fail)
        go_wp2
        have hO8 := (HO7.out.1.stored (k * 4 + 2) (.int .u32 (nr : Int))).1
        have hO9 := (hO8.stored (k * 4 + 3) (.int .u32 (nl : Int))).1
        rw [lvs_set2 _ k l nr nl (turnK_get HL.out), ← HS.out] at hO9
        have hT9 := (HO7.out.2.set (k * 4 + 2) (.int .u32 (nr : Int))).set (k * 4 + 3) (.int .u32 (nl : Int))
        go_roundw
        case rel => exact ⟨k + 1, by omega, by go_num, hO9, ⟨hT9.os, hT9.tape, hT9.output, hT9.size, hT9.block⟩⟩
        case measure => simp [intOf]; omega
    · obtain rfl : k = L.length := by omega
      have HE : Hid (wr.ownsRow B 47 4 (.slice (some ⟨g, 0, none⟩) L.length cap) L.length (lvs (L.map (turnL p q)))) := by have := HR.out; rw [turnK_all] at this; exact this
      go_wp2
      exact bodyPost_end (v := .tuple #[]) (by simp [results, Try.results25]) rfl ⟨rfl, HE.out, HT.out⟩
end Go.Proofs.Ytkehpmbnbknpfaa.Hi
