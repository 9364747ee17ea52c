/- New, Key, Top, Set, Push, Remove, Pop at a heap in memory, told by keys by ids. -/
import Derived.Test.YtepkogijignmlaaHpSettle
import Derived.Deep.OwnRows
import Derived.Laws.OwnMore
import Derived.Deep.AppendLies
namespace Go.Proofs.Ytepkogijignmlaa.Hp
open Go.RowKit

attribute [local go_sem] Oper.semAt_some

theorem pigeon : ∀ (n : Nat) (l : List Nat), l.Nodup → (∀ x ∈ l, x < n) → l.length ≤ n
  | 0, l, _, h => by
    cases l with
    | nil => simp
    | cons a r => exact absurd (h a (by simp)) (by omega)
  | n + 1, l, hn, h => by
    by_cases hm : n ∈ l
    · have h1 := pigeon n (l.erase n) (hn.erase n) (fun x hx => by
        have hx' := (hn.mem_erase_iff).1 hx
        have := h x hx'.2
        have := hx'.1
        omega)
      rw [List.length_erase_of_mem hm] at h1
      omega
    · have h1 := pigeon n l hn (fun x hx => by
        have := h x hx
        have : x ≠ n := fun e => hm (e ▸ hx)
        omega)
      omega
/-- there are no more things in than ids. -/
theorem Heap.few {ps : List Th} {wh : List Int} {f : Int → Option Int} (h : Heap ps wh f) : ps.length ≤ wh.length := by
  have h1 := pigeon wh.length (ps.map fun t => t.2.toNat) (by
    rw [List.Nodup, List.pairwise_iff_getElem]
    intro i j hi hj hij e
    simp only [List.length_map] at hi hj
    simp only [List.getElem_map] at e
    obtain ⟨a0, a1, a2⟩ := h.idr i ps[i] (List.getElem?_eq_getElem hi)
    obtain ⟨b0, b1, b2⟩ := h.idr j ps[j] (List.getElem?_eq_getElem hj)
    rw [e, b2] at a2
    have := Option.some.inj a2
    omega) (fun x hx => by
    obtain ⟨t, ht, rfl⟩ := List.mem_map.1 hx
    obtain ⟨i, hi, e⟩ := List.getElem_of_mem ht
    obtain ⟨a0, a1, _⟩ := h.idr i ps[i] (List.getElem?_eq_getElem hi)
    rw [e] at a0 a1
    omega)
  simpa using h1

/-- a heap in memory, told by the keys of what is in. -/
def IsHeap (w : World) (hb wb n : Nat) (sv : Value) (f : Int → Option Int) : Prop := ∃ ps wh, Mem w hb wb n sv ps wh ∧ Heap ps wh f
theorem IsHeap.below {w w' : World} {hb wb n : Nat} {sv : Value} {f : Int → Option Int} (h : IsHeap w hb wb n sv f) (hb' : Below w.heap.size w w') : IsHeap w' hb wb n sv f := by
  obtain ⟨ps, wh, h1, h2⟩ := h
  exact ⟨ps, wh, h1.below hb', h2⟩
theorem IsHeap.keep {w w' : World} {hb wb n : Nat} {sv : Value} {f : Int → Option Int} (h : IsHeap w hb wb n sv f) (hk : ∀ k, k < w.heap.size → (k = hb ∨ k = wb ∨ sv.ownBlock = some k) → w'.heap[k]? = w.heap[k]?) : IsHeap w' hb wb n sv f := by
  obtain ⟨ps, wh, h1, h2⟩ := h
  exact ⟨ps, wh, h1.keep hk, h2⟩
theorem IsHeap.lt {w : World} {hb wb n : Nat} {sv : Value} {f : Int → Option Int} (h : IsHeap w hb wb n sv f) : hb < w.heap.size ∧ wb < w.heap.size ∧ ∀ k, sv.ownBlock = some k → k < w.heap.size := by
  obtain ⟨ps, wh, h1, _⟩ := h
  exact ⟨lt_of_get h1.box, lt_of_get h1.whr, fun k hk => (h1.row.lt k hk).2⟩

theorem info39 : (Try.prog.info? 54).map (fun i => (i.zero, i.size, i.bytes)) = some (some (.int .u32 0), 1, 4) := by kernel_rfl

set_option maxHeartbeats 1000000 in
theorem new_calls (n : Nat) (hn : n ≤ 65536) (w : World) : Calls Try.prog 53 #[.int .i64 n] w fun e w' => e = .returned (.tuple #[.pointer (some ⟨w.heap.size + 1, 0, none⟩), .nilIface]) ∧ IsHeap w' (w.heap.size + 1) w.heap.size n (.slice none 0 0) (fun _ => none) ∧ Below w.heap.size w w' := by
  have hmk := run_make_row' (P := Try.prog) 22 54 (.int .u32 0) 4 Try.underlying22 info39 rfl .i64 .i64 n (by omega) (by omega)
  have h1 : ¬ (n : Int) < 0 := by omega
  have h2 : ¬ (65536 : Int) < (n : Int) := by omega
  obtain ⟨W, hW⟩ : ∃ W, (w.alloc (.cells (madeCells #[.int .u32 0] n) 54)).alloc (.cells #[.slice none 0 0, .slice (some ⟨w.heap.size, 0, none⟩) n n] 134) = W := ⟨_, rfl⟩
  have HB : Hid (Below w.heap.size w W) := by rw [← hW]; exact ((Below.refl _ w).alloc (Nat.le_refl _) _).alloc (by simp) _
  have HI : Hid (IsHeap W (w.heap.size + 1) w.heap.size n (.slice none 0 0) (fun _ => none)) := by
    refine ⟨[], List.replicate n 0, ⟨?_, World.ownsRow_nil _ _ _ _, ?_, by simp, hn, by omega, (fun e => by cases e), (fun e => by cases e)⟩, Heap.new n⟩
    · have h := heap_new (w.alloc (.cells (madeCells #[.int .u32 0] n) 54)) (.cells #[.slice none 0 0, .slice (some ⟨w.heap.size, 0, none⟩) n n] 134)
      rw [hW] at h
      simpa using h
    · rw [← hW, Below.heap_alloc _ _ _ (by simp), heap_new]
      congr 2
      have h := toList_madeCells_one (.int .u32 0) n
      apply Array.ext'
      rw [h]
      simp
  have HW : Hid ((w.alloc (.cells (madeCells #[.int .u32 0] n) 54)).alloc (.cells #[.slice none 0 0, .slice (some ⟨w.heap.size, 0, none⟩) n n] 134) = W) := hW
  clear hW
  go_enter Try.func53, Try.ntmps53
  go_wp2
  rw [HW.out]
  go_ret2
  exact ⟨rfl, HI.out, HB.out⟩

section
variable {w : World} {hb wb n : Nat} {sv : Value} {f : Int → Option Int}

set_option maxHeartbeats 1000000 in
/-- Top where nothing is in. -/
theorem top_none (h : IsHeap w hb wb n sv f) (hf : ∀ d : Nat, d < n → f d = none) : Calls Try.prog 68 #[.pointer (some ⟨hb, 0, none⟩)] w fun e w' => e = .returned (.tuple #[.int .u32 0, .int .u64 0, .bool false]) ∧ w' = w := by
  obtain ⟨ps, wh, hM, hH⟩ := h
  have hps : ps = [] := by
    cases ps with
    | nil => rfl
    | cons t r =>
      have ht := hH.top (t := t) rfl
      have := hf t.2.toNat (by have := hM.len; omega)
      rw [show ((t.2.toNat : Nat) : Int) = t.2 by omega, ht.1] at this
      cases this
  subst hps
  have HP : Hid (Calls Try.prog 75 #[.pointer (some ⟨hb, 0, none⟩)] w fun e w' => e = .returned (.int .i64 (([] : List Th).length : Nat)) ∧ w' = w) := len_calls hM
  clear hM hH
  go_enter Try.func68, Try.ntmps68
  go_wp2_with fail
  refine HP.out.mono ?_
  rintro e w1 ⟨rfl, hw1⟩
  subst hw1
  go_wp2
  go_ret3
  exact ⟨rfl, rfl⟩

/-- the least thing that is in. -/
def Least (n : Nat) (f : Int → Option Int) (d : Nat) (k : Int) : Prop := d < n ∧ f d = some k ∧ ∀ (e : Nat) j, e < n → f e = some j → ¬ ltT (j, (e : Int)) (k, (d : Int))

set_option maxRecDepth 100000 in
set_option maxHeartbeats 1000000 in
/-- Top where something is in. -/
theorem top_some (h : IsHeap w hb wb n sv f) (d0 : Nat) (hd0 : d0 < n) (hf : f d0 ≠ none) : Calls Try.prog 68 #[.pointer (some ⟨hb, 0, none⟩)] w fun e w' => ∃ (d : Nat) (k : Int), e = .returned (.tuple #[.int .u32 d, .int .u64 k, .bool true]) ∧ Least n f d k ∧ Below w.heap.size w w' := by
  obtain ⟨ps, wh, hM, hH⟩ := h
  have hlen := hM.len
  have hbig := hM.big
  cases hps : ps with
  | nil => exact absurd (hH.empty hps d0 (by omega)) hf
  | cons t r =>
    have ht0 : ps[0]? = some t := by rw [hps]; rfl
    have ht := hH.top ht0
    obtain ⟨tk, ti⟩ := t
    obtain ⟨d, hd⟩ : ∃ d : Nat, ti = d := ⟨ti.toNat, by have := ht.2.1.1; simp only at this; omega⟩
    subst hd
    have HL : Hid (Least n f d tk) := ⟨by have := ht.2.1.2; simp only at this; omega, ht.1, fun e j he hj => ht.2.2 e j (by omega) hj⟩
    have hpos : 0 < ps.length := by rw [hps]; simp
    have hfew := hH.few
    have HP : Hid (Calls Try.prog 75 #[.pointer (some ⟨hb, 0, none⟩)] w fun e w' => e = .returned (.int .i64 (ps.length : Nat)) ∧ w' = w) := len_calls hM
    obtain ⟨c0, c1, _, _⟩ := hM.cells
    obtain ⟨g, cap, e, hc1, hc2, hgl, _, _, q0, q1, _, _⟩ := hM.thing ht0
    subst e
    simp only [Nat.zero_mul, Nat.zero_add] at q0 q1
    have b2 : (0 : Int) < (ps.length : Int) := by omega
    have b3 : ((ps.length : Int) == 0) = false := by
      have : (ps.length : Int) ≠ 0 := by omega
      simpa using this
    unfold maxLen at hc2
    clear hM hH ht ht0 hps hfew
    go_enter Try.func68, Try.ntmps68
    go_wp2_with fail
    refine HP.out.mono ?_
    rintro e w1 ⟨rfl, hw1⟩
    subst hw1
    go_wp2_with fail
    go_quiet (fail)
    go_wp2
    go_ret3
    exact ⟨d, tk, rfl, HL.out, below_draws (Below.refl _ _) _⟩
end
end Go.Proofs.Ytepkogijignmlaa.Hp
