/- an overlay's New: what is laid at first. -/
import Derived.Test.YtcfpkbmeblfhoaaOvY
import Derived.Test.YtcfpkbmeblfhoaaTwiceM
import Derived.Deep.OwnRows
namespace Go.Proofs.Ytcfpkbmeblfhoaa
open Go.RowKit Go.Extern Go.Sort

attribute [local go_sem] Oper.semAt_some

theorem infoBo : (Try.prog.info? 4).map (fun i => (i.zero, i.size, i.bytes)) = some (some (.bool false), 1, 1) := by kernel_rfl
theorem infoRo : (Try.prog.info? 54).map (fun i => (i.zero, i.size, i.bytes)) = some (some (.agg #[.slice none 0 0, .int .i64 0]), 2, 32) := by kernel_rfl
theorem made_bs (n : Nat) : madeCells #[.bool false] n = bC (List.replicate n false) := by
  apply Array.ext'
  apply List.ext_getElem?
  intro j
  simp [madeCells, bC, List.getElem?_replicate]
  split <;> simp_all [Nat.mod_one]
theorem made_rows (n : Nat) : madeCells #[.slice none 0 0, .int .i64 0] (n * 2) = rC n (fun _ => nilR) := by
  apply Array.ext_getElem?
  intro j
  rw [rC_get]
  split
  · rename_i h
    rcases (show j % 2 = 0 ∨ j % 2 = 1 by omega) with e | e
    · simp [madeCells, h, e, nilR]
    · simp [madeCells, h, e, nilR]
  · rename_i h
    rw [Array.getElem?_eq_none]
    rw [size_madeCells]
    omega
theorem make_bs (n : Nat) (hn : n ≤ 65536) (w : World) : (Instr.makeSlice 46 (.int .i64 (n : Int)) (.int .i64 (n : Int))).run Try.prog w = .ok (.slice (some ⟨w.heap.size, 0, none⟩) n n) (w.alloc (.cells (bC (List.replicate n false)) 4)) := by
  rw [← made_bs]
  exact run_make_row' (P := Try.prog) 46 4 (.bool false) 1 Try.underlying46 infoBo rfl .i64 .i64 n (by omega) (by omega) w
theorem make_rows (n : Nat) (hn : n ≤ 65536) (w : World) : (Instr.makeSlice 47 (.int .i64 (n : Int)) (.int .i64 (n : Int))).run Try.prog w = .ok (.slice (some ⟨w.heap.size, 0, none⟩) n n) (w.alloc (.cells (rC n (fun _ => nilR)) 54)) := by
  obtain ⟨i, hi, hzz⟩ := Option.map_eq_some_iff.1 infoRo
  simp only [Prod.mk.injEq] at hzz
  obtain ⟨hz, hs, hb⟩ := hzz
  have hr := run_make (P := Try.prog) w 47 54 i _ Try.underlying47 hi hz .i64 .i64 n n (by omega) (Int.le_refl _) (by rw [hb]; omega) (by omega)
  simp only [Int.toNat_natCast, hs] at hr
  rw [hr, ← made_rows]
  rfl
section
variable (w : World) (o0 o1 o2 o3 : Obj)
theorem nz3 : ((((w.alloc o0).alloc o1).alloc o2).alloc o3).drew.heap[w.heap.size + 1 + 1 + 1]? = some o3 := by
  have h := heap_new (((w.alloc o0).alloc o1).alloc o2) o3
  show ((((w.alloc o0).alloc o1).alloc o2).alloc o3).heap[w.heap.size + 1 + 1 + 1]? = some o3
  simpa using h
theorem nz2 : ((((w.alloc o0).alloc o1).alloc o2).alloc o3).drew.heap[w.heap.size + 1 + 1]? = some o2 := by
  have h := heap_new ((w.alloc o0).alloc o1) o2
  show ((((w.alloc o0).alloc o1).alloc o2).alloc o3).heap[w.heap.size + 1 + 1]? = some o2
  rw [Below.heap_alloc _ _ _ (by simp)]
  simpa using h
theorem nz1 : ((((w.alloc o0).alloc o1).alloc o2).alloc o3).drew.heap[w.heap.size + 1]? = some o1 := by
  have h := heap_new (w.alloc o0) o1
  show ((((w.alloc o0).alloc o1).alloc o2).alloc o3).heap[w.heap.size + 1]? = some o1
  rw [Below.heap_alloc _ _ _ (by simp <;> omega), Below.heap_alloc _ _ _ (by simp)]
  simpa using h
theorem nz0 : ((((w.alloc o0).alloc o1).alloc o2).alloc o3).drew.heap[w.heap.size]? = some o0 := by
  have h := heap_new w o0
  show ((((w.alloc o0).alloc o1).alloc o2).alloc o3).heap[w.heap.size]? = some o0
  rw [Below.heap_alloc _ _ _ (by simp <;> omega), Below.heap_alloc _ _ _ (by simp <;> omega), Below.heap_alloc _ _ _ (by simp)]
  exact h
theorem nzb : Below w.heap.size w ((((w.alloc o0).alloc o1).alloc o2).alloc o3).drew := (((((Below.refl _ w).alloc (Nat.le_refl _) _).alloc (by simp) _).alloc (by simp <;> omega) _).alloc (by simp <;> omega) _).drew
end
/-- rows of nothing. -/
def noRows : Bool → Nat → Rw := fun _ _ => nilR
theorem new_ex {w2 wr : World} {n m B ab ob ib pb : Nat} {cv : Value} (e : cv = .pointer (some ⟨pb, 0, none⟩)) (hn : n ≤ 65536) (c : wr.heap[pb]? = some (.cells #[.slice (some ⟨ab, 0, none⟩) n n, .slice (some ⟨ob, 0, none⟩) n n, .slice (some ⟨ib, 0, none⟩) n n, .int .i64 (n : Int), .int .i64 (m : Int)] 49))
    (f : wr.heap[ab]? = some (.cells (bC (List.replicate n false)) 4)) (t : wr.heap[ob]? = some (.cells (rC n (fun _ => nilR)) 54)) (v : wr.heap[ib]? = some (.cells (rC n (fun _ => nilR)) 54))
    (low : B ≤ ab ∧ B ≤ ob ∧ B ≤ ib ∧ B ≤ pb) (ne : ob ≠ ib) (b : Below w2.heap.size w2 wr) : ∃ pb ab sb, cv = .pointer (some ⟨pb, 0, none⟩) ∧ OvMem noP wr B pb ab sb n (List.replicate n false) noRows (n : Int) (m : Int) ∧ Below w2.heap.size w2 wr :=
  ⟨pb, ab, fun s => if s then ib else ob, e, ⟨c, f, fun s => by cases s; exact t; exact v, by simp, hn, fun s u _ => World.ownsRow_nil _ _ _ _, ⟨low.2.2.2, low.1, fun s => by cases s; exact low.2.1; exact low.2.2.1⟩, ne, fun X o hX => (by cases hX), fun s u k _ h => by cases h⟩, b⟩
end Go.Proofs.Ytcfpkbmeblfhoaa
