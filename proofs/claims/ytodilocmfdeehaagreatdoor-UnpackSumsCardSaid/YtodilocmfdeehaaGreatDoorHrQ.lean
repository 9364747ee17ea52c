/- the chapter's example: viaductref10.Three. -/
import Derived.Test.YtodilocmfdeehaaGreatDoorHrN
namespace Go.Proofs.YtodilocmfdeehaaGreatDoor.Hi
open Go.RowKit Go.Extern Go.Sort Go.Shelf

attribute [local go_sem] Oper.semAt_some

def lays (w : World) (os : List Obj) : World := os.foldl World.alloc w
theorem lays_size : ∀ (os : List Obj) (w : World), (lays w os).heap.size = w.heap.size + os.length
  | [], w => by simp [lays]
  | o :: os, w => by
    have := lays_size os (w.alloc o)
    simp only [lays, List.foldl_cons, List.length_cons] at this ⊢
    rw [this]
    simp
    omega
theorem lays_below : ∀ (os : List Obj) (w : World), Below w.heap.size w (lays w os)
  | [], w => Below.refl _ _
  | o :: os, w => ((Below.refl _ w).alloc (Nat.le_refl _) o).trans ((lays_below os (w.alloc o)).mono (by simp))
theorem lays_get : ∀ (os : List Obj) (w : World) (i : Nat) (o : Obj), os[i]? = some o → (lays w os).heap[w.heap.size + i]? = some o
  | [], w, i, o, h => by simp at h
  | q :: os, w, 0, o, h => by
    simp at h
    subst h
    exact ((lays_below os (w.alloc q)).block _ (by simp)).trans (heap_newW w q)
  | q :: os, w, i + 1, o, h => by
    have := lays_get os (w.alloc q) i o (by simpa using h)
    simp only [World.size_alloc] at this
    rw [show w.heap.size + (i + 1) = w.heap.size + 1 + i by omega]
    exact this
def wvs (l : List Nat) : List Value := l.map fun (n : Nat) => Value.int .u32 (n : Int)
def lvs (l : List Lk) : List Value := l.flatMap fun x => [.int .u32 (x.hd : Int), .int .u64 (x.wt : Int), .int .u32 (x.lf : Int), .int .u32 (x.rt : Int)]
theorem ws_new {W : World} {b cap : Nat} {T : TypeId} {xs : List Nat} (h : W.heap[b]? = some (.cells (wvs xs).toArray T)) (hs : ∀ x ∈ xs, x < 4294967296) (hc : xs.length ≤ cap) : HasWs W (.slice (some ⟨b, 0, none⟩) xs.length cap) xs := by
  refine ⟨_, cap, rfl, hc, fun j a hj => ⟨hs a (List.mem_of_getElem? hj), b, 0, rfl, some_lt h, ?_⟩⟩
  rw [Nat.zero_add]
  simp [World.cell?, h, wvs, hj]
theorem lvs_get : ∀ (l : List Lk) (i : Nat) (a : Lk), l[i]? = some a → (lvs l)[i * 4]? = some (.int .u32 (a.hd : Int)) ∧ (lvs l)[i * 4 + 1]? = some (.int .u64 (a.wt : Int)) ∧ (lvs l)[i * 4 + 2]? = some (.int .u32 (a.lf : Int)) ∧ (lvs l)[i * 4 + 3]? = some (.int .u32 (a.rt : Int))
  | [], i, a, h => by simp at h
  | b :: r, 0, a, h => by
    simp at h
    subst h
    simp [lvs]
  | b :: r, i + 1, a, h => by
    have ih := lvs_get r i a (by simpa using h)
    have e : lvs (b :: r) = [.int .u32 (b.hd : Int), .int .u64 (b.wt : Int), .int .u32 (b.lf : Int), .int .u32 (b.rt : Int)] ++ lvs r := by simp [lvs]
    have key : ∀ c, (lvs (b :: r))[(i + 1) * 4 + c]? = (lvs r)[i * 4 + c]? := fun c => by
      rw [e, List.getElem?_append_right (by simp; omega)]
      congr 1
      simp
      omega
    exact ⟨(key 0).trans ih.1, (key 1).trans ih.2.1, (key 2).trans ih.2.2.1, (key 3).trans ih.2.2.2⟩
theorem ls_new {W : World} {b cap : Nat} {T : TypeId} {xs : List Lk} (h : W.heap[b]? = some (.cells (lvs xs).toArray T)) (hs : ∀ x ∈ xs, x.ok) (hc : xs.length ≤ cap) : HasLs W (.slice (some ⟨b, 0, none⟩) xs.length cap) xs := by
  refine ⟨_, cap, rfl, hc, fun j a hj => ⟨hs a (List.mem_of_getElem? hj), b, 0, rfl, some_lt h, ?_⟩⟩
  obtain ⟨g0, g1, g2, g3⟩ := lvs_get xs j a hj
  simp only [Nat.zero_add]
  have key : ∀ c, W.cell? ⟨b, c, none⟩ = (lvs xs)[c]? := fun c => by simp [World.cell?, h]
  exact ⟨(key _).trans g0, (key _).trans g1, (key _).trans g2, (key _).trans g3⟩

def three : Hr := ⟨[1, 0, 2], [0, 1, 2, 2], [⟨2, 1, 4294967295, 4294967295⟩, ⟨2, 5, 2, 0⟩], [0, 1, 1, 1], [⟨1, 4, 4294967295, 4294967295⟩]⟩
theorem chk_three : chk three = (0, []) := by kernel_rfl
set_option maxRecDepth 100000 in
set_option maxHeartbeats 2000000 in
theorem three_calls (w : World) : Calls Tryz.prog 29 #[] w fun e w' => ∃ v, e = .returned (hvl v three) ∧ HasH w' v three ∧ Below w.heap.size w w' := by
  go_enter Tryz.func29, Tryz.ntmps29
  go_wp2
  have hl := lays_get [.cells #[.slice (some ⟨w.heap.size + 1, 0, none⟩) 3 3, .slice (some ⟨w.heap.size + 1 + 1, 0, none⟩) 4 4, .slice (some ⟨w.heap.size + 1 + 1 + 1, 0, none⟩) 2 2, .slice (some ⟨w.heap.size + 1 + 1 + 1 + 1, 0, none⟩) 4 4, .slice (some ⟨w.heap.size + 1 + 1 + 1 + 1 + 1, 0, none⟩) 1 1] 25, .cells (wvs three.node).toArray 62, .cells (wvs three.upF).toArray 62, .cells (lvs three.up).toArray 65, .cells (wvs three.dnF).toArray 62, .cells (lvs three.dn).toArray 65] w
  have hb := lays_below [.cells #[.slice (some ⟨w.heap.size + 1, 0, none⟩) 3 3, .slice (some ⟨w.heap.size + 1 + 1, 0, none⟩) 4 4, .slice (some ⟨w.heap.size + 1 + 1 + 1, 0, none⟩) 2 2, .slice (some ⟨w.heap.size + 1 + 1 + 1 + 1, 0, none⟩) 4 4, .slice (some ⟨w.heap.size + 1 + 1 + 1 + 1 + 1, 0, none⟩) 1 1] 25, .cells (wvs three.node).toArray 62, .cells (wvs three.upF).toArray 62, .cells (lvs three.up).toArray 65, .cells (wvs three.dnF).toArray 62, .cells (lvs three.dn).toArray 65] w
  generalize hW : lays w [.cells #[.slice (some ⟨w.heap.size + 1, 0, none⟩) 3 3, .slice (some ⟨w.heap.size + 1 + 1, 0, none⟩) 4 4, .slice (some ⟨w.heap.size + 1 + 1 + 1, 0, none⟩) 2 2, .slice (some ⟨w.heap.size + 1 + 1 + 1 + 1, 0, none⟩) 4 4, .slice (some ⟨w.heap.size + 1 + 1 + 1 + 1 + 1, 0, none⟩) 1 1] 25, .cells (wvs three.node).toArray 62, .cells (wvs three.upF).toArray 62, .cells (lvs three.up).toArray 65, .cells (wvs three.dnF).toArray 62, .cells (lvs three.dn).toArray 65] = W at hl hb
  have e0 := hl 0 _ rfl
  obtain ⟨c0, c1, c2, c3, c4⟩ := five_cells e0
  show bodyPost _ _ _ _ _ (lays w [.cells #[.slice (some ⟨w.heap.size + 1, 0, none⟩) 3 3, .slice (some ⟨w.heap.size + 1 + 1, 0, none⟩) 4 4, .slice (some ⟨w.heap.size + 1 + 1 + 1, 0, none⟩) 2 2, .slice (some ⟨w.heap.size + 1 + 1 + 1 + 1, 0, none⟩) 4 4, .slice (some ⟨w.heap.size + 1 + 1 + 1 + 1 + 1, 0, none⟩) 1 1] 25, .cells (wvs three.node).toArray 62, .cells (wvs three.upF).toArray 62, .cells (lvs three.up).toArray 65, .cells (wvs three.dnF).toArray 62, .cells (lvs three.dn).toArray 65])
  rw [hW]
  refine bodyPost_ret (v := .agg #[.slice (some ⟨w.heap.size + 1, 0, none⟩) 3 3, .slice (some ⟨w.heap.size + 1 + 1, 0, none⟩) 4 4, .slice (some ⟨w.heap.size + 1 + 1 + 1, 0, none⟩) 2 2, .slice (some ⟨w.heap.size + 1 + 1 + 1 + 1, 0, none⟩) 4 4, .slice (some ⟨w.heap.size + 1 + 1 + 1 + 1 + 1, 0, none⟩) 1 1]) (by simp at c0 c1 c2 c3 c4; simp [results, Tryz.results29, go_sem, c0, c1, c2, c3, c4]) rfl ?_
  refine ⟨⟨some ⟨w.heap.size + 1, 0, none⟩, some ⟨w.heap.size + 1 + 1, 0, none⟩, some ⟨w.heap.size + 1 + 1 + 1, 0, none⟩, some ⟨w.heap.size + 1 + 1 + 1 + 1, 0, none⟩, some ⟨w.heap.size + 1 + 1 + 1 + 1 + 1, 0, none⟩, 3, 4, 2, 4, 1⟩, rfl, ⟨?_, ?_, ?_, ?_, ?_⟩, hb⟩
  · exact ws_new (hl 1 _ rfl) (by decide) (Nat.le_refl _)
  · exact ws_new (hl 2 _ rfl) (by decide) (Nat.le_refl _)
  · exact ls_new (hl 3 _ rfl) (by unfold Lk.ok; decide) (Nat.le_refl _)
  · exact ws_new (hl 4 _ rfl) (by decide) (Nat.le_refl _)
  · exact ls_new (hl 5 _ rfl) (by unfold Lk.ok; decide) (Nat.le_refl _)
end Go.Proofs.YtodilocmfdeehaaGreatDoor.Hi
