/- contracts for HierFixed: Three as rows of one's own, bad, hierarchies at the limits. (genhx.py) -/
import Derived.Test.YtamedcnjanichaaDoorHrQ
import Derived.Test.YtamedcnjanichaaDoorHsB
import Derived.Test.YtamedcnjanichaaDoorHsF
import Derived.Test.YtamedcnjanichaaDoorHrR
import Derived.Test.YtamedcnjanichaaDoorHdX
import Derived.Test.YtamedcnjanichaaDoorDocCheck
import Derived.Test.YtamedcnjanichaaDoorSeen
namespace Go.Proofs.YtamedcnjanichaaDoor.Hi
open Go.RowKit Go.Extern Go.Shelf

attribute [local go_sem] Oper.semAt_some

/-- a hierarchy in five blocks. -/
structure In5 (w : World) (b : Nat) (h : Hr) : Prop where
  n : w.heap[b]? = some (.cells (wvs h.node).toArray 42)
  u : w.heap[b + 1]? = some (.cells (wvs h.upF).toArray 42)
  l : w.heap[b + 2]? = some (.cells (lvs h.up).toArray 61)
  d : w.heap[b + 3]? = some (.cells (wvs h.dnF).toArray 42)
  m : w.heap[b + 4]? = some (.cells (lvs h.dn).toArray 61)
theorem In5.keep {w w' : World} {b : Nat} {h : Hr} (g : In5 w b h) (hb : Below w.heap.size w w') : In5 w' b h :=
  ⟨(hb.block _ (some_lt g.n)).trans g.n, (hb.block _ (some_lt g.u)).trans g.u, (hb.block _ (some_lt g.l)).trans g.l, (hb.block _ (some_lt g.d)).trans g.d, (hb.block _ (some_lt g.m)).trans g.m⟩
def T3 (b : Nat) : HV := ⟨some ⟨b, 0, none⟩, some ⟨b + 1, 0, none⟩, some ⟨b + 2, 0, none⟩, some ⟨b + 3, 0, none⟩, some ⟨b + 4, 0, none⟩, 3, 4, 2, 4, 1⟩
structure Like3 (h : Hr) : Prop where
  n : h.node.length = 3
  u : h.upF.length = 4
  l : h.up.length = 2
  d : h.dnF.length = 4
  m : h.dn.length = 1
  on : ∀ x ∈ h.node, x < 4294967296
  ou : ∀ x ∈ h.upF, x < 4294967296
  ol : ∀ x ∈ h.up, x.ok
  od : ∀ x ∈ h.dnF, x < 4294967296
  om : ∀ x ∈ h.dn, x.ok
theorem In5.has {w : World} {b : Nat} {h : Hr} (g : In5 w b h) (k : Like3 h) : HasH w (T3 b) h :=
  ⟨ws_new g.n k.on (Nat.le_of_eq k.n), ws_new g.u k.ou (Nat.le_of_eq k.u), ls_new g.l k.ol (Nat.le_of_eq k.l), ws_new g.d k.od (Nat.le_of_eq k.d), ls_new g.m k.om (Nat.le_of_eq k.m)⟩
theorem hvl3 {b : Nat} {h : Hr} (k : Like3 h) : hvl (T3 b) h = .agg #[.slice (some ⟨b, 0, none⟩) 3 3, .slice (some ⟨b + 1, 0, none⟩) 4 4, .slice (some ⟨b + 2, 0, none⟩) 2 2, .slice (some ⟨b + 3, 0, none⟩) 4 4, .slice (some ⟨b + 4, 0, none⟩) 1 1] := by
  unfold hvl T3
  rw [k.n, k.u, k.l, k.d, k.m]
theorem set_at {W : World} {b o : Nat} {T : TypeId} {cs : Array Value} (h : W.heap[b]? = some (.cells cs T)) (v : Value) : (W.setCell ⟨b, o, none⟩ v).heap[b]? = some (.cells (cs.setIfInBounds o v) T) := by
  simp [World.setCell, Array.getElem?_modify, h]
set_option maxRecDepth 100000 in
set_option maxHeartbeats 2000000 in
theorem three_own (w : World) : Calls Tryd.prog 21 #[] w fun e w' => ∃ b, e = .returned (.agg #[.slice (some ⟨b, 0, none⟩) 3 3, .slice (some ⟨b + 1, 0, none⟩) 4 4, .slice (some ⟨b + 2, 0, none⟩) 2 2, .slice (some ⟨b + 3, 0, none⟩) 4 4, .slice (some ⟨b + 4, 0, none⟩) 1 1]) ∧ w.heap.size ≤ b ∧ In5 w' b three ∧ Below w.heap.size w w' := by
  go_enter Tryd.func21, Tryd.ntmps21
  go_wp2
  have hl := lays_get [.cells #[.slice (some ⟨w.heap.size + 1, 0, none⟩) 3 3, .slice (some ⟨w.heap.size + 1 + 1, 0, none⟩) 4 4, .slice (some ⟨w.heap.size + 1 + 1 + 1, 0, none⟩) 2 2, .slice (some ⟨w.heap.size + 1 + 1 + 1 + 1, 0, none⟩) 4 4, .slice (some ⟨w.heap.size + 1 + 1 + 1 + 1 + 1, 0, none⟩) 1 1] 25, .cells (wvs three.node).toArray 42, .cells (wvs three.upF).toArray 42, .cells (lvs three.up).toArray 61, .cells (wvs three.dnF).toArray 42, .cells (lvs three.dn).toArray 61] w
  have hb := lays_below [.cells #[.slice (some ⟨w.heap.size + 1, 0, none⟩) 3 3, .slice (some ⟨w.heap.size + 1 + 1, 0, none⟩) 4 4, .slice (some ⟨w.heap.size + 1 + 1 + 1, 0, none⟩) 2 2, .slice (some ⟨w.heap.size + 1 + 1 + 1 + 1, 0, none⟩) 4 4, .slice (some ⟨w.heap.size + 1 + 1 + 1 + 1 + 1, 0, none⟩) 1 1] 25, .cells (wvs three.node).toArray 42, .cells (wvs three.upF).toArray 42, .cells (lvs three.up).toArray 61, .cells (wvs three.dnF).toArray 42, .cells (lvs three.dn).toArray 61] w
  generalize hW : lays w [.cells #[.slice (some ⟨w.heap.size + 1, 0, none⟩) 3 3, .slice (some ⟨w.heap.size + 1 + 1, 0, none⟩) 4 4, .slice (some ⟨w.heap.size + 1 + 1 + 1, 0, none⟩) 2 2, .slice (some ⟨w.heap.size + 1 + 1 + 1 + 1, 0, none⟩) 4 4, .slice (some ⟨w.heap.size + 1 + 1 + 1 + 1 + 1, 0, none⟩) 1 1] 25, .cells (wvs three.node).toArray 42, .cells (wvs three.upF).toArray 42, .cells (lvs three.up).toArray 61, .cells (wvs three.dnF).toArray 42, .cells (lvs three.dn).toArray 61] = W at hl hb
  have e0 := hl 0 _ rfl
  obtain ⟨c0, c1, c2, c3, c4⟩ := five_cells e0
  show bodyPost _ _ _ _ _ (lays w [.cells #[.slice (some ⟨w.heap.size + 1, 0, none⟩) 3 3, .slice (some ⟨w.heap.size + 1 + 1, 0, none⟩) 4 4, .slice (some ⟨w.heap.size + 1 + 1 + 1, 0, none⟩) 2 2, .slice (some ⟨w.heap.size + 1 + 1 + 1 + 1, 0, none⟩) 4 4, .slice (some ⟨w.heap.size + 1 + 1 + 1 + 1 + 1, 0, none⟩) 1 1] 25, .cells (wvs three.node).toArray 42, .cells (wvs three.upF).toArray 42, .cells (lvs three.up).toArray 61, .cells (wvs three.dnF).toArray 42, .cells (lvs three.dn).toArray 61])
  rw [hW]
  refine bodyPost_ret (v := .agg #[.slice (some ⟨w.heap.size + 1, 0, none⟩) 3 3, .slice (some ⟨w.heap.size + 1 + 1, 0, none⟩) 4 4, .slice (some ⟨w.heap.size + 1 + 1 + 1, 0, none⟩) 2 2, .slice (some ⟨w.heap.size + 1 + 1 + 1 + 1, 0, none⟩) 4 4, .slice (some ⟨w.heap.size + 1 + 1 + 1 + 1 + 1, 0, none⟩) 1 1]) (by simp at c0 c1 c2 c3 c4; simp [results, Tryd.results21, go_sem, c0, c1, c2, c3, c4]) rfl ?_
  exact ⟨w.heap.size + 1, rfl, Nat.le_succ _, ⟨hl 1 _ rfl, hl 2 _ rfl, hl 3 _ rfl, hl 4 _ rfl, hl 5 _ rfl⟩, hb⟩

theorem build_h0 (wx : World) : (Instr.build 25 #[]).run Tryd.prog wx = .ok (.agg #[.slice none 0 0, .slice none 0 0, .slice none 0 0, .slice none 0 0, .slice none 0 0]) wx := by kernel_rfl
def hA : Hr := ⟨[1, 0, 2], [0, 1, 2, 2], [⟨2, 1, 4294967295, 4294967295⟩, ⟨2, 6, 2, 0⟩], [0, 1, 1, 1], [⟨1, 4, 4294967295, 4294967295⟩]⟩
theorem chkA : chk hA = (8, [(4, 1)]) := by kernel_rfl
theorem likeA : Like3 hA := ⟨rfl, rfl, rfl, rfl, rfl, by decide, by decide, by unfold Lk.ok; decide, by decide, by unfold Lk.ok; decide⟩
theorem setA {w : World} {b : Nat} (g : In5 w b three) : In5 (w.setCell ⟨b + 2, 5, none⟩ (.int .u64 6)) b hA :=
  ⟨(Below.heap_setCell _ _ _ _ (by show b ≠ b + 2; omega)).trans g.n, (Below.heap_setCell _ _ _ _ (by show b + 1 ≠ b + 2; omega)).trans g.u, (set_at g.l _).trans (congrArg some (congrArg (fun c => Obj.cells c _) rfl)), (Below.heap_setCell _ _ _ _ (by show b + 3 ≠ b + 2; omega)).trans g.d, (Below.heap_setCell _ _ _ _ (by show b + 4 ≠ b + 2; omega)).trans g.m⟩
def hB : Hr := ⟨[1, 0, 2], [0, 1, 2, 2], [⟨2, 1, 4294967295, 4294967295⟩, ⟨2, 5, 0, 0⟩], [0, 1, 1, 1], [⟨1, 4, 4294967295, 4294967295⟩]⟩
theorem chkB : chk hB = (14, [(4, 1)]) := by kernel_rfl
theorem likeB : Like3 hB := ⟨rfl, rfl, rfl, rfl, rfl, by decide, by decide, by unfold Lk.ok; decide, by decide, by unfold Lk.ok; decide⟩
theorem setB {w : World} {b : Nat} (g : In5 w b three) : In5 (w.setCell ⟨b + 2, 6, none⟩ (.int .u32 0)) b hB :=
  ⟨(Below.heap_setCell _ _ _ _ (by show b ≠ b + 2; omega)).trans g.n, (Below.heap_setCell _ _ _ _ (by show b + 1 ≠ b + 2; omega)).trans g.u, (set_at g.l _).trans (congrArg some (congrArg (fun c => Obj.cells c _) rfl)), (Below.heap_setCell _ _ _ _ (by show b + 3 ≠ b + 2; omega)).trans g.d, (Below.heap_setCell _ _ _ _ (by show b + 4 ≠ b + 2; omega)).trans g.m⟩
def hC : Hr := ⟨[1, 0, 2], [0, 1, 2, 2], [⟨2, 1, 4294967295, 4294967295⟩, ⟨1, 5, 2, 0⟩], [0, 1, 1, 1], [⟨1, 4, 4294967295, 4294967295⟩]⟩
theorem chkC : chk hC = (14, [(4, 1)]) := by kernel_rfl
theorem likeC : Like3 hC := ⟨rfl, rfl, rfl, rfl, rfl, by decide, by decide, by unfold Lk.ok; decide, by decide, by unfold Lk.ok; decide⟩
theorem setC {w : World} {b : Nat} (g : In5 w b three) : In5 (w.setCell ⟨b + 2, 4, none⟩ (.int .u32 1)) b hC :=
  ⟨(Below.heap_setCell _ _ _ _ (by show b ≠ b + 2; omega)).trans g.n, (Below.heap_setCell _ _ _ _ (by show b + 1 ≠ b + 2; omega)).trans g.u, (set_at g.l _).trans (congrArg some (congrArg (fun c => Obj.cells c _) rfl)), (Below.heap_setCell _ _ _ _ (by show b + 3 ≠ b + 2; omega)).trans g.d, (Below.heap_setCell _ _ _ _ (by show b + 4 ≠ b + 2; omega)).trans g.m⟩
def hD : Hr := ⟨[1, 0, 1], [0, 1, 2, 2], [⟨2, 1, 4294967295, 4294967295⟩, ⟨2, 5, 2, 0⟩], [0, 1, 1, 1], [⟨1, 4, 4294967295, 4294967295⟩]⟩
theorem chkD : chk hD = (20, [(3, 2)]) := by kernel_rfl
theorem likeD : Like3 hD := ⟨rfl, rfl, rfl, rfl, rfl, by decide, by decide, by unfold Lk.ok; decide, by decide, by unfold Lk.ok; decide⟩
theorem setD {w : World} {b : Nat} (g : In5 w b three) : In5 (w.setCell ⟨b, 2, none⟩ (.int .u32 1)) b hD :=
  ⟨(set_at g.n _).trans (congrArg some (congrArg (fun c => Obj.cells c _) rfl)), (Below.heap_setCell _ _ _ _ (by show b + 1 ≠ b; omega)).trans g.u, (Below.heap_setCell _ _ _ _ (by show b + 2 ≠ b; omega)).trans g.l, (Below.heap_setCell _ _ _ _ (by show b + 3 ≠ b; omega)).trans g.d, (Below.heap_setCell _ _ _ _ (by show b + 4 ≠ b; omega)).trans g.m⟩
def hF : Hr := ⟨[1, 0, 2], [0, 1, 2], [⟨2, 1, 4294967295, 4294967295⟩, ⟨2, 5, 2, 0⟩], [0, 1, 1, 1], [⟨1, 4, 4294967295, 4294967295⟩]⟩
theorem chkF : chk hF = (14, []) := by kernel_rfl
def VF (b : Nat) : HV := ⟨some ⟨b, 0, none⟩, some ⟨b + 1, 0, none⟩, some ⟨b + 2, 0, none⟩, some ⟨b + 3, 0, none⟩, some ⟨b + 4, 0, none⟩, 3, 4, 2, 4, 1⟩
theorem hasF {w : World} {b : Nat} (g : In5 w b three) : HasH w (VF b) hF := by
  refine ⟨ws_new g.n (by decide) (Nat.le_refl _), ⟨_, 4, rfl, by decide, fun j a hj => ?_⟩, ls_new g.l (by unfold Lk.ok; decide) (Nat.le_refl _), ws_new g.d (by decide) (Nat.le_refl _), ls_new g.m (by unfold Lk.ok; decide) (Nat.le_refl _)⟩
  have hlt := some_lt g.u
  have key : ∀ c, w.cell? ⟨b + 1, c, none⟩ = (wvs three.upF)[c]? := fun c => by simp [World.cell?, g.u]
  rcases j with _ | _ | _ | j
  · cases hj; exact ⟨by decide, b + 1, 0, rfl, hlt, (key 0).trans rfl⟩
  · cases hj; exact ⟨by decide, b + 1, 0, rfl, hlt, (key 1).trans rfl⟩
  · cases hj; exact ⟨by decide, b + 1, 0, rfl, hlt, (key 2).trans rfl⟩
  · simp [hF] at hj
def hG : Hr := ⟨[1, 0, 2], [0, 1, 2, 2], [⟨2, 1, 4294967295, 4294967295⟩, ⟨2, 5, 4294967295, 0⟩], [0, 1, 1, 1], [⟨1, 4, 4294967295, 4294967295⟩]⟩
theorem chkG : chk hG = (14, [(4, 1)]) := by kernel_rfl
theorem likeG : Like3 hG := ⟨rfl, rfl, rfl, rfl, rfl, by decide, by decide, by unfold Lk.ok; decide, by decide, by unfold Lk.ok; decide⟩
theorem setG {w : World} {b : Nat} (g : In5 w b three) : In5 (w.setCell ⟨b + 2, 6, none⟩ (.int .u32 4294967295)) b hG :=
  ⟨(Below.heap_setCell _ _ _ _ (by show b ≠ b + 2; omega)).trans g.n, (Below.heap_setCell _ _ _ _ (by show b + 1 ≠ b + 2; omega)).trans g.u, (set_at g.l _).trans (congrArg some (congrArg (fun c => Obj.cells c _) rfl)), (Below.heap_setCell _ _ _ _ (by show b + 3 ≠ b + 2; omega)).trans g.d, (Below.heap_setCell _ _ _ _ (by show b + 4 ≠ b + 2; omega)).trans g.m⟩
def hI : Hr := ⟨[1, 0, 2], [0, 1, 2, 2], [⟨2, 2147483648, 4294967295, 4294967295⟩, ⟨2, 5, 2, 0⟩], [0, 1, 1, 1], [⟨1, 4, 4294967295, 4294967295⟩]⟩
theorem chkI : chk hI = (8, [(4, 0)]) := by kernel_rfl
theorem likeI : Like3 hI := ⟨rfl, rfl, rfl, rfl, rfl, by decide, by decide, by unfold Lk.ok; decide, by decide, by unfold Lk.ok; decide⟩
theorem setI {w : World} {b : Nat} (g : In5 w b three) : In5 (w.setCell ⟨b + 2, 1, none⟩ (.int .u64 2147483648)) b hI :=
  ⟨(Below.heap_setCell _ _ _ _ (by show b ≠ b + 2; omega)).trans g.n, (Below.heap_setCell _ _ _ _ (by show b + 1 ≠ b + 2; omega)).trans g.u, (set_at g.l _).trans (congrArg some (congrArg (fun c => Obj.cells c _) rfl)), (Below.heap_setCell _ _ _ _ (by show b + 3 ≠ b + 2; omega)).trans g.d, (Below.heap_setCell _ _ _ _ (by show b + 4 ≠ b + 2; omega)).trans g.m⟩
def hJ : Hr := ⟨[1, 0, 2], [0, 3, 2, 2], [⟨2, 1, 4294967295, 4294967295⟩, ⟨2, 5, 2, 0⟩], [0, 1, 1, 1], [⟨1, 4, 4294967295, 4294967295⟩]⟩
theorem chkJ : chk hJ = (14, [(3, 1)]) := by kernel_rfl
theorem likeJ : Like3 hJ := ⟨rfl, rfl, rfl, rfl, rfl, by decide, by decide, by unfold Lk.ok; decide, by decide, by unfold Lk.ok; decide⟩
theorem setJ {w : World} {b : Nat} (g : In5 w b three) : In5 (w.setCell ⟨b + 1, 1, none⟩ (.int .u32 3)) b hJ :=
  ⟨(Below.heap_setCell _ _ _ _ (by show b ≠ b + 1; omega)).trans g.n, (set_at g.u _).trans (congrArg some (congrArg (fun c => Obj.cells c _) rfl)), (Below.heap_setCell _ _ _ _ (by show b + 2 ≠ b + 1; omega)).trans g.l, (Below.heap_setCell _ _ _ _ (by show b + 3 ≠ b + 1; omega)).trans g.d, (Below.heap_setCell _ _ _ _ (by show b + 4 ≠ b + 1; omega)).trans g.m⟩
def hK : Hr := ⟨[1, 0, 2], [0, 1, 2, 2], [⟨2, 1, 4294967295, 4294967295⟩, ⟨2, 5, 2, 0⟩], [1, 1, 1, 1], [⟨1, 4, 4294967295, 4294967295⟩]⟩
theorem chkK : chk hK = (14, []) := by kernel_rfl
theorem likeK : Like3 hK := ⟨rfl, rfl, rfl, rfl, rfl, by decide, by decide, by unfold Lk.ok; decide, by decide, by unfold Lk.ok; decide⟩
theorem setK {w : World} {b : Nat} (g : In5 w b three) : In5 (w.setCell ⟨b + 3, 0, none⟩ (.int .u32 1)) b hK :=
  ⟨(Below.heap_setCell _ _ _ _ (by show b ≠ b + 3; omega)).trans g.n, (Below.heap_setCell _ _ _ _ (by show b + 1 ≠ b + 3; omega)).trans g.u, (Below.heap_setCell _ _ _ _ (by show b + 2 ≠ b + 3; omega)).trans g.l, (set_at g.d _).trans (congrArg some (congrArg (fun c => Obj.cells c _) rfl)), (Below.heap_setCell _ _ _ _ (by show b + 4 ≠ b + 3; omega)).trans g.m⟩
def noneH : Hr := ⟨[], [0], [], [0], []⟩
theorem chkNone : chk noneH = (0, []) := by kernel_rfl
def emptyH : Hr := ⟨[], [], [], [], []⟩
theorem chkEmpty : chk emptyH = (14, []) := by kernel_rfl
def zl : Lk := ⟨0, 0, 0, 0⟩
def bigN : Hr := ⟨List.replicate 65537 0, [], [], [], []⟩
theorem chkBigN : chk bigN = (9, []) := by
  unfold chk bigN
  rw [if_pos (Or.inl (by rw [List.length_replicate]; decide))]
def bigL : Hr := ⟨[], [], List.replicate 524288 zl, [], List.replicate 524289 zl⟩
theorem chkBigL : chk bigL = (9, []) := by
  unfold chk bigL
  rw [if_pos (Or.inr (by rw [List.length_replicate, List.length_replicate]; decide))]
def bigS : Hr := ⟨[], [], List.replicate 524288 zl, [], List.replicate 524288 zl⟩
theorem chkBigS : chk bigS = (14, []) := by
  unfold chk bigS
  rw [if_neg (by rw [List.length_replicate]; simp), if_pos (Or.inl (by simp))]
theorem ws_nil (w : World) : HasWs w (.slice none 0 0) [] := ⟨none, 0, rfl, Nat.le_refl _, fun j p hj => by simp at hj⟩
theorem ls_nil (w : World) : HasLs w (.slice none 0 0) [] := ⟨none, 0, rfl, Nat.le_refl _, fun j p hj => by simp at hj⟩
theorem ws_made {W : World} {b n : Nat} (h : W.heap[b]? = some (.cells (madeCells #[.int .u32 0] n) 42)) : HasWs W (.slice (some ⟨b, 0, none⟩) n n) (List.replicate n 0) := by
  refine ⟨_, n, by rw [List.length_replicate], by rw [List.length_replicate]; exact Nat.le_refl _, fun j a hj => ?_⟩
  obtain ⟨hj1, hj2⟩ := List.getElem?_eq_some_iff.1 hj
  rw [List.length_replicate] at hj1
  rw [List.getElem_replicate] at hj2
  subst hj2
  refine ⟨by decide, b, 0, rfl, some_lt h, ?_⟩
  rw [Nat.zero_add]
  simp [World.cell?, h, madeCells, hj1, Nat.mod_one]
theorem ls_made {W : World} {b n : Nat} (h : W.heap[b]? = some (.cells (madeCells #[.int .u32 0, .int .u64 0, .int .u32 0, .int .u32 0] (n * 4)) 61)) : HasLs W (.slice (some ⟨b, 0, none⟩) n n) (List.replicate n zl) := by
  refine ⟨_, n, by rw [List.length_replicate], by rw [List.length_replicate]; exact Nat.le_refl _, fun j a hj => ?_⟩
  obtain ⟨hj1, hj2⟩ := List.getElem?_eq_some_iff.1 hj
  rw [List.length_replicate] at hj1
  rw [List.getElem_replicate] at hj2
  subst hj2
  refine ⟨by unfold Lk.ok zl; decide, b, 0, rfl, some_lt h, ?_⟩
  have key : ∀ c v, c < 4 → (#[Value.int .u32 0, .int .u64 0, .int .u32 0, .int .u32 0] : Array Value)[c]? = some v → W.cell? ⟨b, j * 4 + c, none⟩ = some v := fun c v hc hv => by
    have e : (j * 4 + c) % 4 = c := by omega
    have hlt : j * 4 + c < n * 4 := by omega
    simp [World.cell?, h, madeCells, hlt, e]
    rcases c with _ | _ | _ | _ | c
    · simpa using hv
    · simpa using hv
    · simpa using hv
    · simpa using hv
    · omega
  simp only [Nat.zero_add]
  exact ⟨key 0 _ (by omega) rfl, key 1 _ (by omega) rfl, key 2 _ (by omega) rfl, key 3 _ (by omega) rfl⟩
theorem infoW9 : (Tryd.prog.info? 42).map (fun i => (i.zero, i.size, i.bytes)) = some (some (.int .u32 0), 1, 4) := by kernel_rfl
theorem infoL9 : (Tryd.prog.info? 61).map (fun i => (i.zero, i.size, i.bytes)) = some (some (.agg #[.int .u32 0, .int .u64 0, .int .u32 0, .int .u32 0]), 4, 24) := by kernel_rfl
theorem make_w (wx : World) : (Instr.makeSlice 22 (.int .i64 65537) (.int .i64 65537)).run Tryd.prog wx = .ok (.slice (some ⟨wx.heap.size, 0, none⟩) 65537 65537) (wx.alloc (.cells (madeCells #[.int .u32 0] 65537) 42)) := by
  obtain ⟨i0, hi, hzz⟩ := Option.map_eq_some_iff.1 infoW9
  simp only [Prod.mk.injEq] at hzz
  have g := run_make (P := Tryd.prog) (w := wx) 22 42 i0 (.int .u32 0) Tryd.underlying22 hi hzz.1 .i64 .i64 65537 65537 (by decide) (by decide) (by rw [hzz.2.2]; decide) (by decide)
  rw [hzz.2.1] at g
  exact g
theorem make_l (n : Nat) (hn : n ≤ 1048576) (wx : World) : (Instr.makeSlice 23 (.int .i64 (n : Int)) (.int .i64 (n : Int))).run Tryd.prog wx = .ok (.slice (some ⟨wx.heap.size, 0, none⟩) n n) (wx.alloc (.cells (madeCells #[.int .u32 0, .int .u64 0, .int .u32 0, .int .u32 0] (n * 4)) 61)) := by
  obtain ⟨i0, hi, hzz⟩ := Option.map_eq_some_iff.1 infoL9
  simp only [Prod.mk.injEq] at hzz
  have g := run_make (P := Tryd.prog) (w := wx) 23 61 i0 (.agg #[.int .u32 0, .int .u64 0, .int .u32 0, .int .u32 0]) Tryd.underlying23 hi hzz.1 .i64 .i64 (n : Int) (n : Int) (by omega) (by omega) (by rw [hzz.2.2]; omega) (by omega)
  rw [hzz.2.1] at g
  exact g
theorem build_hn (b n : Nat) (wx : World) : (Instr.build 25 #[(0, .slice (some ⟨b, 0, none⟩) n n)]).run Tryd.prog wx = .ok (.agg #[.slice (some ⟨b, 0, none⟩) n n, .slice none 0 0, .slice none 0 0, .slice none 0 0, .slice none 0 0]) wx := by kernel_rfl
theorem build_hl (b c n m : Nat) (wx : World) : (Instr.build 25 #[(2, .slice (some ⟨b, 0, none⟩) n n), (4, .slice (some ⟨c, 0, none⟩) m m)]).run Tryd.prog wx = .ok (.agg #[.slice none 0 0, .slice none 0 0, .slice (some ⟨b, 0, none⟩) n n, .slice none 0 0, .slice (some ⟨c, 0, none⟩) m m]) wx := by kernel_rfl
theorem build_hnone (b c : Nat) (wx : World) : (Instr.build 25 #[(1, .slice (some ⟨b, 0, none⟩) 1 1), (3, .slice (some ⟨c, 0, none⟩) 1 1)]).run Tryd.prog wx = .ok (.agg #[.slice none 0 0, .slice (some ⟨b, 0, none⟩) 1 1, .slice none 0 0, .slice (some ⟨c, 0, none⟩) 1 1, .slice none 0 0]) wx := by kernel_rfl
theorem turn_three : turnH three = ⟨[1, 0, 2], [0, 1, 1, 1], [⟨1, 4, 4294967295, 4294967295⟩], [0, 1, 2, 2], [⟨2, 1, 4294967295, 4294967295⟩, ⟨2, 5, 1, 0⟩]⟩ := by kernel_rfl
theorem rk_three : intsL (rkM three.node) = [1, 0, 2] := by kernel_rfl
theorem ends_three1 : endsE three 1 = (1, 2, (0, [])) := by kernel_rfl
theorem ends_three3 : endsE three 3 = (0, 0, (1, [])) := by kernel_rfl
theorem ends_threeM : endsE three (-1) = (0, 0, (1, [])) := by kernel_rfl
end Go.Proofs.YtamedcnjanichaaDoor.Hi
