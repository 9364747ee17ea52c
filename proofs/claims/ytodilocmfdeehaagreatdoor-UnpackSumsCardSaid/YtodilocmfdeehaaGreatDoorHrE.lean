/- the iterator that hier.links answers: all links by their numbers. -/
import Derived.Test.YtodilocmfdeehaaGreatDoorHrD
namespace Go.Proofs.YtodilocmfdeehaaGreatDoor.Hi
open Go.RowKit Go.Extern Go.Shelf

attribute [local go_sem] Oper.semAt_some

/-- things with their numbers, from k on. -/
def numd (k : Nat) : List Sd → List (Nat × Sd)
  | [] => []
  | s :: r => (k, s) :: numd (k + 1) r
theorem numd_len : ∀ (l : List Sd) (k : Nat), (numd k l).length = l.length
  | [], _ => rfl
  | s :: r, k => by simp [numd, numd_len r]
theorem numd_append : ∀ (a b : List Sd) (k : Nat), numd k (a ++ b) = numd k a ++ numd (k + a.length) b
  | [], _, _ => by simp [numd]
  | s :: r, b, k => by simp [numd, numd_append r b (k + 1)]; congr 1; omega
theorem numd_snoc (a : List Sd) (s : Sd) : numd 0 (a ++ [s]) = numd 0 a ++ [(a.length, s)] := by rw [numd_append]; simp [numd]
/-- a hierarchy in memory: the values of its five lists. -/
structure HV where
  no : Option Addr
  uo : Option Addr
  ul : Option Addr
  wo : Option Addr
  dl : Option Addr
  nc : Nat
  uc : Nat
  ulc : Nat
  wc : Nat
  dlc : Nat
structure HasH (w : World) (v : HV) (h : Hr) : Prop where
  node : HasWs w (.slice v.no h.node.length v.nc) h.node
  upF : HasWs w (.slice v.uo h.upF.length v.uc) h.upF
  up : HasLs w (.slice v.ul h.up.length v.ulc) h.up
  dnF : HasWs w (.slice v.wo h.dnF.length v.wc) h.dnF
  dn : HasLs w (.slice v.dl h.dn.length v.dlc) h.dn
theorem HasH.keep {w w' : World} {v : HV} {h : Hr} (g : HasH w v h) (hb : Below w.heap.size w w') : HasH w' v h := ⟨g.node.keep hb, g.upF.keep hb, g.up.keep hb, g.dnF.keep hb, g.dn.keep hb⟩
def cellsH (v : HV) (h : Hr) : Array Value := #[.slice v.no h.node.length v.nc, .slice v.uo h.upF.length v.uc, .slice v.ul h.up.length v.ulc, .slice v.wo h.dnF.length v.wc, .slice v.dl h.dn.length v.dlc]
theorem five_cells {w : World} {b : Nat} {T : TypeId} {a0 a1 a2 a3 a4 : Value} (h : w.heap[b]? = some (.cells #[a0, a1, a2, a3, a4] T)) : w.cell? ⟨b, 0, none⟩ = some a0 ∧ w.cell? ⟨b, 1, none⟩ = some a1 ∧ w.cell? ⟨b, 2, none⟩ = some a2 ∧ w.cell? ⟨b, 3, none⟩ = some a3 ∧ w.cell? ⟨b, 4, none⟩ = some a4 := by
  simp [World.cell?, h]
/-- what the iterator of links reads. -/
structure MemH (BH : Nat) (v : HV) (h : Hr) (W : World) : Prop where
  box : W.heap[BH]? = some (.cells (cellsH v h) 25)
  has : HasH W v h
/-- what the iterator of links may turn: what is no cells, and its own boxes. -/
def TnI (o : Obj) : Prop := o.isCells = false ∨ ∃ c t z, o = .cells c t z ∧ (t = 3 ∨ t = 22 ∨ t = 23 ∨ t = 189)
def encS (x : Nat × Sd) : Array Value := #[.int .i64 (x.1 : Int), svl x.2]

set_option maxRecDepth 100000 in
set_option maxHeartbeats 2000000 in
theorem ranked_in (n : Nat) (a b : Value) (w : World) (ha : ∃ o k c, a = .slice o k c) (hb : ∃ o k c, b = .slice o k c) : CallsIn Fence.wide n Tryz.prog 104 #[a, b] w fun e w' => e = .returned (.func (.func 121) #[] #[.pointer (some ⟨w.heap.size, 0, none⟩), .pointer (some ⟨w.heap.size + 1, 0, none⟩)]) ∧ w' = (w.alloc (.cells #[a] 22)).alloc (.cells #[b] 23) := by
  obtain ⟨xo, xn, xc, rfl⟩ := ha
  obtain ⟨yo, yn, yc, rfl⟩ := hb
  refine callsIn_of_wp Tryz.func104 rfl trivial ?_ rfl
  simp only [List.size_toArray, List.length_cons, List.length_nil, Tryz.ntmps104, Nat.reduceAdd, Nat.reduceSub, Array.replicate_succ, Array.replicate_zero, List.push_toArray, List.append_toArray, List.nil_append, List.cons_append]
  gi_wp2
  go_ret
  exact ⟨rfl, rfl⟩

/-- between two rounds: what has come, the iterator's own boxes, the inner iterator's. -/
structure LnI (J : List (Nat × Sd) → World → Prop) (y l B1 B2 : Nat) (fv lv : Value) (sz k : Nat) (M : List Sd) (Wc : World) : Prop where
  j : J (numd 0 M) Wc
  by' : Boxed Wc y 189 (.func (.yield l) #[] #[])
  bn : Boxed Wc (y + 1) 3 (.int .i64 (k : Int))
  b1 : Boxed Wc B1 22 fv
  b2 : Boxed Wc B2 23 lv
  size : sz ≤ Wc.heap.size
theorem not_TnC {c : Array Value} {t : TypeId} : ¬ TnC (.cells c t) := by simp [TnC, Obj.isCells]
theorem TnC_TnI (o : Obj) (h : TnC o) : TnI o := Or.inl h
theorem tnI_int (c : Array Value) : TnI (.cells c 3) := Or.inr ⟨_, _, _, rfl, Or.inl rfl⟩
theorem tnI_ws (c : Array Value) : TnI (.cells c 22) := Or.inr ⟨_, _, _, rfl, Or.inr (Or.inl rfl)⟩
theorem tnI_ls (c : Array Value) : TnI (.cells c 23) := Or.inr ⟨_, _, _, rfl, Or.inr (Or.inr (Or.inl rfl))⟩
theorem tnI_y (c : Array Value) : TnI (.cells c 189) := Or.inr ⟨_, _, _, rfl, Or.inr (Or.inr (Or.inr rfl))⟩
theorem LnI.turn {J : List (Nat × Sd) → World → Prop} {y l B1 B2 : Nat} {fv lv : Value} {sz k : Nat} {M : List Sd} {A C : World} (hJ : AbT TnI y J) (hy : y ≤ sz) (h : LnI J y l B1 B2 fv lv sz k M A) (ht : Turn TnC sz A C) : LnI J y l B1 B2 fv lv sz k M C :=
  ⟨hJ _ _ _ h.j (ht.mono hy TnC_TnI), ht.same _ _ h.by' not_TnC, ht.same _ _ h.bn not_TnC, ht.same _ _ h.b1 not_TnC, ht.same _ _ h.b2 not_TnC, Nat.le_trans h.size ht.below.size⟩
theorem LnI.step {J : List (Nat × Sd) → World → Prop} {y l B1 B2 : Nat} {fv lv : Value} {sz k k' : Nat} {M : List Sd} {s : Sd} {A C : World} (hJ : AbT TnI y J) (h1 : y + 1 < B1) (h2 : y + 1 < B2) (hsz : y + 1 < sz) (h : LnI J y l B1 B2 fv lv sz k M A) (hk : KeepsT TnI y A C) (hj : J (numd 0 (M ++ [s])) C) (e : k' = k + 1) :
    LnI J y l B1 B2 fv lv sz k' (M ++ [s]) (C.setCell ⟨y + 1, 0, none⟩ (.int .i64 (k' : Int))) ∧ KeepsT TnC sz A (C.setCell ⟨y + 1, 0, none⟩ (.int .i64 (k' : Int))) := by
  subst e
  have by3 := hk.same _ _ (Nat.le_refl _) h.by' (tnI_y _)
  have bn3 := hk.same _ _ (by omega) h.bn (tnI_int _)
  have b13 := hk.same _ _ (by omega) h.b1 (tnI_ws _)
  have b23 := hk.same _ _ (by omega) h.b2 (tnI_ls _)
  refine ⟨⟨hJ _ _ _ hj ((Turn.refl _ _ _).setCell (p := ⟨y + 1, 0, none⟩) (by show y ≤ y + 1; omega) bn3 (tnI_int _) _), ?_, ?_, ?_, ?_, ?_⟩, ?_⟩
  · exact (Below.heap_setCell _ _ _ _ (by show y ≠ y + 1; omega)).trans by3
  · exact Boxed.set (v := .int .i64 (k : Int)) _ bn3
  · exact (Below.heap_setCell _ _ _ _ (by show B1 ≠ y + 1; omega)).trans b13
  · exact (Below.heap_setCell _ _ _ _ (by show B2 ≠ y + 1; omega)).trans b23
  · have := hk.size
    have := h.size
    simp [World.setCell]
    omega
  · exact (hk.mono (by omega) TnC_TnI).setCell (p := ⟨y + 1, 0, none⟩) (Or.inl hsz) _
theorem pre_up {h : Hr} {pre : List (Nat × Lk)} {x : Nat × Lk} (hp : pre ++ [x] <+: rkL h.upF h.up) : numd 0 (pre.map upS) ++ [(pre.length, upS x)] <+: numd 0 (stds h) ∧ numd 0 (pre.map upS) ++ [(pre.length, upS x)] = numd 0 (pre.map upS ++ [upS x]) := by
  have e : numd 0 (pre.map upS ++ [upS x]) = numd 0 (pre.map upS) ++ [(pre.length, upS x)] := by rw [numd_snoc]; simp
  refine ⟨?_, e.symm⟩
  rw [← e]
  obtain ⟨t, ht⟩ := hp
  have e2 : stds h = (pre.map upS ++ [upS x]) ++ (t.map upS ++ (rkL h.dnF h.dn).map dnS) := by
    rw [stds, ← ht]; simp
  rw [e2, numd_append (pre.map upS ++ [upS x])]
  exact List.prefix_append _ _
theorem pre_dn {h : Hr} {pre : List (Nat × Lk)} {x : Nat × Lk} (hp : pre ++ [x] <+: rkL h.dnF h.dn) : numd 0 ((rkL h.upF h.up).map upS ++ pre.map dnS) ++ [((rkL h.upF h.up).length + pre.length, dnS x)] <+: numd 0 (stds h) ∧ numd 0 ((rkL h.upF h.up).map upS ++ pre.map dnS) ++ [((rkL h.upF h.up).length + pre.length, dnS x)] = numd 0 ((rkL h.upF h.up).map upS ++ pre.map dnS ++ [dnS x]) := by
  have e : numd 0 ((rkL h.upF h.up).map upS ++ pre.map dnS ++ [dnS x]) = numd 0 ((rkL h.upF h.up).map upS ++ pre.map dnS) ++ [((rkL h.upF h.up).length + pre.length, dnS x)] := by rw [numd_snoc]; simp
  refine ⟨?_, e.symm⟩
  rw [← e]
  obtain ⟨t, ht⟩ := hp
  have e2 : stds h = ((rkL h.upF h.up).map upS ++ pre.map dnS ++ [dnS x]) ++ t.map dnS := by
    rw [stds, ← ht]; simp
  rw [e2, numd_append ((rkL h.upF h.up).map upS ++ pre.map dnS ++ [dnS x])]
  exact List.prefix_append _ _

set_option maxRecDepth 100000 in
set_option maxHeartbeats 4000000 in
theorem links1_seq (n BH : Nat) (v : HV) (h : Hr) (hu : FOk h.upF h.up.length) (hd : FOk h.dnF h.dn.length) (hun : h.upF.length ≤ 65537) (hdn : h.dnF.length ≤ 65537) (hul : h.up.length ≤ 1048576) (hdl : h.dn.length ≤ 1048576) (B : Nat) (hBH : BH < B) :
    SeqT Fence.wide n Tryz.prog 103 #[.pointer (some ⟨BH, 0, none⟩)] encS TnI (MemH BH v h) (numd 0 (stds h)) B := by
  intro l J Jx W hW hJ hJx hM hY h0
  refine callsIn_of_wp_marks Tryz.func103 rfl trivial ?_ rfl
  obtain ⟨y, hy0⟩ : ∃ y, W.heap.size = y := ⟨_, rfl⟩
  rw [hy0] at hW hJ hJx hY
  have HJ : Hid (AbT TnI y J) := hJ
  have HJx : Hid (AbT TnI y Jx) := hJx
  have HM : Hid (∀ pre W1, J pre W1 → MemH BH v h W1) := hM
  have HY : Hid (∀ pre x W1, J pre W1 → pre ++ [x] <+: numd 0 (stds h) → YieldAt Fence.wide (n - 1) Tryz.prog l (encS x) W1 fun e W' => KeepsT TnI y W1 W' ∧ ((e = .returned (.bool true) ∧ J (pre ++ [x]) W') ∨ (e = .returned (.bool false) ∧ Jx (pre ++ [x]) W'))) := hY
  have H0 : Hid (J (numd 0 []) W) := h0
  have hbx := (HM.out _ _ h0).box
  obtain ⟨c0, c1, c2, c3, c4⟩ := five_cells hbx
  have hBW : BH < y := by omega
  have HU : Hid (FOk h.upF h.up.length) := hu
  have HD : Hid (FOk h.dnF h.dn.length) := hd
  clear hJ hJx hM hY h0 hbx hu hd
  simp only [List.size_toArray, List.length_cons, List.length_nil, Tryz.ntmps103, Nat.reduceAdd, Nat.reduceSub, Array.replicate_succ, Array.replicate_zero, List.push_toArray, List.append_toArray, List.nil_append, List.cons_append]
  gi_wp2_with (refine ⟨trivial, fun h => (by cases h), (ranked_in _ _ _ _ ⟨_, _, _, rfl⟩ ⟨_, _, _, rfl⟩).mono ?_⟩; rintro e w' ⟨rfl, rfl⟩)
  have hI0 : LnI J y l (y + 1 + 1) (y + 1 + 1 + 1) (.slice v.uo h.upF.length v.uc) (.slice v.ul h.up.length v.ulc) (y + 1 + 1 + 1 + 1) 0 [] ((((W.alloc (.cells #[.func (.yield l) #[] #[]] 189)).alloc (.cells #[.int .i64 0] 3)).alloc (.cells #[.slice v.uo h.upF.length v.uc] 22)).alloc (.cells #[.slice v.ul h.up.length v.ulc] 23)) := by
    subst hy0
    refine ⟨HJ.out _ _ _ H0.out (((((Turn.refl _ _ _).alloc (Nat.le_refl _) _).alloc (by simp) _).alloc (by simp; omega) _).alloc (by simp; omega) _), ?_, ?_, ?_, ?_, by simp⟩
    · exact (((Boxed.new W 189 (.func (.yield l) #[] #[])).alloc _).alloc _).alloc _
    · have g := ((Boxed.new (W.alloc (.cells #[.func (.yield l) #[] #[]] 189)) 3 (.int .i64 0)).alloc (.cells #[.slice v.uo h.upF.length v.uc] 22)).alloc (.cells #[.slice v.ul h.up.length v.ulc] 23)
      rw [World.size_alloc] at g
      exact g
    · have g := (Boxed.new ((W.alloc (.cells #[.func (.yield l) #[] #[]] 189)).alloc (.cells #[.int .i64 0] 3)) 22 (.slice v.uo h.upF.length v.uc)).alloc (.cells #[.slice v.ul h.up.length v.ulc] 23)
      rw [World.size_alloc, World.size_alloc] at g
      exact g
    · have g := Boxed.new (((W.alloc (.cells #[.func (.yield l) #[] #[]] 189)).alloc (.cells #[.int .i64 0] 3)).alloc (.cells #[.slice v.uo h.upF.length v.uc] 22)) 23 (.slice v.ul h.up.length v.ulc)
      rw [World.size_alloc, World.size_alloc, World.size_alloc] at g
      exact g
  have hs0 : ((((W.alloc (.cells #[.func (.yield l) #[] #[]] 189)).alloc (.cells #[.int .i64 0] 3)).alloc (.cells #[.slice v.uo h.upF.length v.uc] 22)).alloc (.cells #[.slice v.ul h.up.length v.ulc] 23)).heap.size = y + 1 + 1 + 1 + 1 := by simp [hy0]
  generalize (((W.alloc (.cells #[.func (.yield l) #[] #[]] 189)).alloc (.cells #[.int .i64 0] 3)).alloc (.cells #[.slice v.uo h.upF.length v.uc] 22)).alloc (.cells #[.slice v.ul h.up.length v.ulc] 23) = W0 at *
  clear hy0 c0 c1 c2 c3 c4 H0
  have HI : AbT TnC W0.heap.size (fun (p : List (Nat × Lk)) Wc => LnI J y l (y + 1 + 1) (y + 1 + 1 + 1) (.slice v.uo h.upF.length v.uc) (.slice v.ul h.up.length v.ulc) (y + 1 + 1 + 1 + 1) p.length (p.map upS) Wc) := by
    rw [hs0]; exact fun s A C hs ht => hs.turn HJ.out (by omega) ht
  have HIx : AbT TnC W0.heap.size (fun (p : List (Nat × Lk)) Wc => Jx (numd 0 (p.map upS)) Wc) := by
    rw [hs0]; exact fun s A C hs ht => HJx.out _ _ _ hs (ht.mono (by omega) TnC_TnI)
  have hur := rkL_len HU.out
  refine wp_over (xs := rkL h.upF h.up) rfl (fun h => (by cases h)) (gf := 121) (lb := #[.pointer (some ⟨y + 1 + 1, 0, none⟩), .pointer (some ⟨y + 1 + 1 + 1, 0, none⟩)]) rfl trivial (enters_of Tryz.func121 (by kernel_rfl) rfl)
    (ranked1_seq _ (y + 1 + 1) (y + 1 + 1 + 1) v.uo v.ul v.uc v.ulc h.upF h.up HU.out hun hul 0) (Nat.zero_le _) (fun _ => rfl) (fun _ => rfl) (fun _ => rfl) _ _ HI HIx (fun pre Wc hi => ⟨hi.b1, hi.b2, (HM.out _ _ hi.j).has.upF, (HM.out _ _ hi.j).has.up⟩) hI0
    (fun x a' Wc => ∃ Bx, Wc.heap[Bx]? = some (.cells #[.int .u32 (x.2.hd : Int), .int .u64 (x.2.wt : Int), .int .u32 (x.2.lf : Int), .int .u32 (x.2.rt : Int)] 65) ∧ a' = { tmps := #[.func (.yield l) #[] #[], .pointer (some ⟨BH, 0, none⟩), .pointer (some ⟨y, 0, none⟩), .pointer (some ⟨y + 1, 0, none⟩), .int .u32 (x.1 : Int), .pointer (some ⟨Bx, 0, none⟩), undef, undef, .pointer (some ⟨BH, 1, none⟩), .slice v.uo h.upF.length v.uc, .pointer (some ⟨BH, 2, none⟩), .slice v.ul h.up.length v.ulc, .func (.func 121) #[] #[.pointer (some ⟨y + 1 + 1, 0, none⟩), .pointer (some ⟨y + 1 + 1 + 1, 0, none⟩)], .int .u32 (x.1 : Int), .agg #[.int .u32 (x.2.hd : Int), .int .u64 (x.2.wt : Int), .int .u32 (x.2.lf : Int), .int .u32 (x.2.rt : Int)], undef, undef, undef, undef, undef, undef, undef, undef, undef, undef, undef, undef, undef, undef, undef, undef, undef, undef, undef, undef, undef, undef, undef, undef, undef], defers := [] })
    (fun x a' _ A C hs ht => by obtain ⟨Bx, h1, h2⟩ := hs; exact ⟨Bx, ht.same _ _ h1 not_TnC, h2⟩) ?assign ?body ?done ?stop
  case assign =>
    rintro l2 pre x Wc K hi _ hK
    have HHI : Hid (LnI J y l (y + 1 + 1) (y + 1 + 1 + 1) (.slice v.uo h.upF.length v.uc) (.slice v.ul h.up.length v.ulc) (y + 1 + 1 + 1 + 1) pre.length (pre.map upS) Wc) := hi
    clear hi
    dsimp only [encR, lvl]
    gi_wp2
    exact hK _ _ ((KeepsT.refl _ _ _).alloc _) (HI _ _ _ HHI.out ((Turn.refl _ _ _).alloc (by rw [hs0]; exact HHI.out.size) _)) ⟨Wc.heap.size, heap_newW _ _, rfl⟩
  case body =>
    rintro l2 pre x a' Wc hl2 hi ⟨Bx, bX, rfl⟩ hp
    obtain ⟨r, ⟨hd, wt, lf, rt⟩⟩ := x
    have HHI : Hid (LnI J y l (y + 1 + 1) (y + 1 + 1 + 1) (.slice v.uo h.upF.length v.uc) (.slice v.ul h.up.length v.ulc) (y + 1 + 1 + 1 + 1) pre.length (pre.map upS) Wc) := hi
    have HP : Hid _ := pre_up hp
    have hlen : pre.length < 1048576 := by have := hp.length_le; simp at this; omega
    obtain ⟨fn, tmps, assign, body, hy, hR⟩ := HY.out _ (pre.length, upS (r, ⟨hd, wt, lf, rt⟩)) Wc hi.j HP.out.1
    dsimp only [encS, svl, upS] at hy
    dsimp only at bX
    have g1 := hi.by'.cell
    have g2 := hi.bn.cell
    have g3 : Wc.cell? ⟨Bx, 0, none⟩ = some (.int .u32 (hd : Int)) ∧ Wc.cell? ⟨Bx, 1, none⟩ = some (.int .u64 (wt : Int)) ∧ Wc.cell? ⟨Bx, 2, none⟩ = some (.int .u32 (lf : Int)) ∧ Wc.cell? ⟨Bx, 3, none⟩ = some (.int .u32 (rt : Int)) := by simp [World.cell?, bX]
    obtain ⟨g3, g4, g5, g6⟩ := g3
    clear hi bX
    dsimp only
    gi_wp2
    refine ⟨fun h => (by cases h), RoundIn.mono (round_any rfl hR) ?_⟩
    rintro e W3 ⟨hk3, ⟨rfl, hJ3⟩ | ⟨rfl, hJx3⟩⟩
    · have HST := LnI.step (k' := pre.length + 1) (s := upS (r, ⟨hd, wt, lf, rt⟩)) HJ.out (by omega) (by omega) (by omega) HHI.out hk3 (by rw [← HP.out.2]; exact hJ3) rfl
      have HST2 : Hid _ := HST
      have q2 : Boxed W3 (y + 1) 3 (.int .i64 (pre.length : Int)) := hk3.same _ _ (by omega) HHI.out.bn (tnI_int _)
      have g7 := q2.cell
      have g8 := q2.frozen
      have hw1 : IntKind.i64.wrap ((pre.length : Int) + 1) = ((pre.length + 1 : Nat) : Int) := by rw [IntKind.wrap_i64]; omega
      clear HST hJ3 hk3 q2
      gi_wp2
      refine ⟨by rw [hs0]; exact HST2.out.2, ?_⟩
      have := HST2.out.1
      simpa using this
    · have HX3 : Hid (Jx (numd 0 ((pre ++ [(r, (⟨hd, wt, lf, rt⟩ : Lk))]).map upS)) W3) := by show Jx _ _; rw [List.map_append, List.map_singleton, ← HP.out.2]; exact hJx3
      have HKT : Hid (KeepsT TnC W0.heap.size Wc W3) := by rw [hs0]; exact hk3.mono (by omega) TnC_TnI
      clear hJx3 hk3
      gi_wp2
      exact ⟨HKT.out, HX3.out⟩
  case done =>
    rintro D Wd hD hi hK
    have HHI : Hid (LnI J y l (y + 1 + 1) (y + 1 + 1 + 1) (.slice v.uo h.upF.length v.uc) (.slice v.ul h.up.length v.ulc) (y + 1 + 1 + 1 + 1) (rkL h.upF h.up).length ((rkL h.upF h.up).map upS) Wd) := hi
    have HKD : Hid (Wd.heap[D]? = some (.deferred (some []))) := hK
    obtain ⟨c0, c1, c2, c3, c4⟩ := five_cells (HM.out _ _ hi.j).box
    have hDl : D < Wd.heap.size := some_lt hK
    have hzz : y + 1 + 1 + 1 + 1 ≤ Wd.heap.size := hi.size
    obtain ⟨z, hz⟩ : ∃ z, Wd.heap.size = z := ⟨_, rfl⟩
    rw [hz] at hDl hzz
    clear hi hK HI HIx hI0
    gi_wp2_with (refine ⟨trivial, fun h => (by cases h), (ranked_in _ _ _ _ ⟨_, _, _, rfl⟩ ⟨_, _, _, rfl⟩).mono ?_⟩; rintro e w' ⟨rfl, rfl⟩)
    have hI0 : LnI J y l z (z + 1) (.slice v.wo h.dnF.length v.wc) (.slice v.dl h.dn.length v.dlc) (z + 1 + 1) ((rkL h.upF h.up).length + 0) ((rkL h.upF h.up).map upS ++ []) ((Wd.alloc (.cells #[.slice v.wo h.dnF.length v.wc] 22)).alloc (.cells #[.slice v.dl h.dn.length v.dlc] 23)) := by
      rw [List.append_nil, Nat.add_zero]
      refine ⟨HJ.out _ _ _ HHI.out.j (((Turn.refl _ _ _).alloc (by omega) _).alloc (by simp; omega) _), (HHI.out.by'.alloc _).alloc _, (HHI.out.bn.alloc _).alloc _, ?_, ?_, by simp; omega⟩
      · have g := (Boxed.new Wd 22 (.slice v.wo h.dnF.length v.wc)).alloc (.cells #[.slice v.dl h.dn.length v.dlc] 23)
        rw [hz] at g
        exact g
      · have g := Boxed.new (Wd.alloc (.cells #[.slice v.wo h.dnF.length v.wc] 22)) 23 (.slice v.dl h.dn.length v.dlc)
        rw [World.size_alloc, hz] at g
        exact g
    have HKD2 : Hid (((Wd.alloc (.cells #[.slice v.wo h.dnF.length v.wc] 22)).alloc (.cells #[.slice v.dl h.dn.length v.dlc] 23)).heap[D]? = some (.deferred (some []))) := ((Below.heap_alloc _ _ _ (by simp; omega)).trans (Below.heap_alloc _ _ _ (by omega))).trans HKD.out
    have hs1 : ((Wd.alloc (.cells #[.slice v.wo h.dnF.length v.wc] 22)).alloc (.cells #[.slice v.dl h.dn.length v.dlc] 23)).heap.size = z + 1 + 1 := by simp [hz]
    generalize (Wd.alloc (.cells #[.slice v.wo h.dnF.length v.wc] 22)).alloc (.cells #[.slice v.dl h.dn.length v.dlc] 23) = W2 at *
    clear hz c0 c1 c2 c3 c4 HHI HKD
    have hDy : y ≤ D := by omega
    have HI : AbT TnC W2.heap.size (fun (p : List (Nat × Lk)) Wc => LnI J y l z (z + 1) (.slice v.wo h.dnF.length v.wc) (.slice v.dl h.dn.length v.dlc) (z + 1 + 1) ((rkL h.upF h.up).length + p.length) ((rkL h.upF h.up).map upS ++ p.map dnS) Wc ∧ Wc.heap[D]? = some (.deferred (some []))) := by
      rw [hs1]; exact fun s A C hs ht => ⟨hs.1.turn HJ.out (by omega) ht, (ht.below.block _ (by omega)).trans hs.2⟩
    have HIx : AbT TnC W2.heap.size (fun (p : List (Nat × Lk)) Wc => Jx (numd 0 ((rkL h.upF h.up).map upS ++ p.map dnS)) Wc ∧ Wc.heap[D]? = some (.deferred (some []))) := by
      rw [hs1]; exact fun s A C hs ht => ⟨HJx.out _ _ _ hs.1 (ht.mono (by omega) TnC_TnI), (ht.below.block _ (by omega)).trans hs.2⟩
    have hdr := rkL_len HD.out
    refine wp_over (xs := rkL h.dnF h.dn) rfl (fun h => (by cases h)) (gf := 121) (lb := #[.pointer (some ⟨z, 0, none⟩), .pointer (some ⟨z + 1, 0, none⟩)]) rfl trivial (enters_of Tryz.func121 (by kernel_rfl) rfl)
      (ranked1_seq _ z (z + 1) v.wo v.dl v.wc v.dlc h.dnF h.dn HD.out hdn hdl 0) (Nat.zero_le _) (fun _ => rfl) (fun _ => rfl) (fun _ => rfl) _ _ HI HIx (fun pre Wc hi => ⟨hi.1.b1, hi.1.b2, (HM.out _ _ hi.1.j).has.dnF, (HM.out _ _ hi.1.j).has.dn⟩) ⟨hI0, HKD2.out⟩
      (fun x a' Wc => ∃ Bx, Wc.heap[Bx]? = some (.cells #[.int .u32 (x.2.hd : Int), .int .u64 (x.2.wt : Int), .int .u32 (x.2.lf : Int), .int .u32 (x.2.rt : Int)] 65) ∧ a' = { tmps := #[.func (.yield l) #[] #[], .pointer (some ⟨BH, 0, none⟩), .pointer (some ⟨y, 0, none⟩), .pointer (some ⟨y + 1, 0, none⟩), undef, undef, .int .u32 (x.1 : Int), .pointer (some ⟨Bx, 0, none⟩), .pointer (some ⟨BH, 1, none⟩), .slice v.uo h.upF.length v.uc, .pointer (some ⟨BH, 2, none⟩), .slice v.ul h.up.length v.ulc, .func (.func 121) #[] #[.pointer (some ⟨y + 1 + 1, 0, none⟩), .pointer (some ⟨y + 1 + 1 + 1, 0, none⟩)], undef, undef, undef, undef, undef, undef, undef, undef, undef, undef, undef, .pointer (some ⟨BH, 3, none⟩), .slice v.wo h.dnF.length v.wc, .pointer (some ⟨BH, 4, none⟩), .slice v.dl h.dn.length v.dlc, .func (.func 121) #[] #[.pointer (some ⟨z, 0, none⟩), .pointer (some ⟨z + 1, 0, none⟩)], .int .u32 (x.1 : Int), .agg #[.int .u32 (x.2.hd : Int), .int .u64 (x.2.wt : Int), .int .u32 (x.2.lf : Int), .int .u32 (x.2.rt : Int)], undef, undef, undef, undef, undef, undef, undef, undef, undef], defers := [] })
      (fun x a' _ A C hs ht => by obtain ⟨Bx, h1, h2⟩ := hs; exact ⟨Bx, ht.same _ _ h1 not_TnC, h2⟩) ?assign2 ?body2 ?done2 ?stop2
    case assign2 =>
      rintro l2 pre x Wc K hi _ hK
      have HHI : Hid _ := hi
      clear hi
      dsimp only [encR, lvl]
      gi_wp2
      exact hK _ _ ((KeepsT.refl _ _ _).alloc _) (HI _ _ _ HHI.out ((Turn.refl _ _ _).alloc (by rw [hs1]; exact HHI.out.1.size) _)) ⟨Wc.heap.size, heap_newW _ _, rfl⟩
    case body2 =>
      rintro l2 pre x a' Wc hl2 ⟨hi, hDk⟩ ⟨Bx, bX, rfl⟩ hp
      obtain ⟨r, ⟨hd, wt, lf, rt⟩⟩ := x
      have HHI : Hid _ := hi
      have HDK : Hid (Wc.heap[D]? = some (.deferred (some []))) := hDk
      have HP : Hid _ := pre_dn hp
      have hlen : pre.length < 1048576 := by have := hp.length_le; simp at this; omega
      obtain ⟨fn, tmps, assign, body, hy, hR⟩ := HY.out _ ((rkL h.upF h.up).length + pre.length, dnS (r, ⟨hd, wt, lf, rt⟩)) Wc hi.j HP.out.1
      dsimp only [encS, svl, dnS] at hy
      dsimp only at bX
      have g1 := hi.by'.cell
      have g2 := hi.bn.cell
      have g3 : Wc.cell? ⟨Bx, 0, none⟩ = some (.int .u32 (hd : Int)) ∧ Wc.cell? ⟨Bx, 1, none⟩ = some (.int .u64 (wt : Int)) ∧ Wc.cell? ⟨Bx, 2, none⟩ = some (.int .u32 (lf : Int)) ∧ Wc.cell? ⟨Bx, 3, none⟩ = some (.int .u32 (rt : Int)) := by simp [World.cell?, bX]
      obtain ⟨g3, g4, g5, g6⟩ := g3
      have HBN := hi.bn
      have hur2 := hur
      clear hi hDk bX hur
      obtain ⟨kk, hkk⟩ : ∃ kk, (rkL h.upF h.up).length + pre.length = kk := ⟨_, rfl⟩
      have HKK : Hid ((rkL h.upF h.up).length + pre.length = kk) := hkk
      have hk9 : kk < 2097152 := by omega
      rw [hkk] at hy g2 HBN HHI
      have HB2 : Hid _ := HBN
      clear hkk hur2 HBN
      dsimp only
      gi_wp2
      refine ⟨fun h => (by cases h), RoundIn.mono (round_any rfl hR) ?_⟩
      rintro e W3 ⟨hk3, ⟨rfl, hJ3⟩ | ⟨rfl, hJx3⟩⟩
      · have HST := LnI.step (k' := kk + 1) (s := dnS (r, ⟨hd, wt, lf, rt⟩)) HJ.out (by omega) (by omega) (by omega) HHI.out hk3 (by rw [← HP.out.2]; exact hJ3) rfl
        have HST2 : Hid _ := HST
        have q2 : Boxed W3 (y + 1) 3 (.int .i64 (kk : Int)) := hk3.same _ _ (by omega) HHI.out.bn (tnI_int _)
        have HDK3 : Hid (W3.heap[D]? = some (.deferred (some []))) := hk3.same _ _ hDy HDK.out (Or.inl rfl)
        have g7 := q2.cell
        have g8 := q2.frozen
        have hw1 : IntKind.i64.wrap ((kk : Int) + 1) = ((kk + 1 : Nat) : Int) := by rw [IntKind.wrap_i64]; omega
        clear HST hJ3 hk3 q2
        gi_wp2
        refine ⟨by rw [hs1]; exact HST2.out.2, ?_, ?_⟩
        · have e : (rkL h.upF h.up).length + (pre ++ [(r, (⟨hd, wt, lf, rt⟩ : Lk))]).length = kk + 1 := by rw [List.length_append, ← Nat.add_assoc, HKK.out]; rfl
          rw [e]
          simpa using HST2.out.1
        · exact (Below.heap_setCell _ _ _ _ (by show D ≠ y + 1; omega)).trans HDK3.out
      · have HX3 : Hid (Jx (numd 0 ((rkL h.upF h.up).map upS ++ (pre ++ [(r, (⟨hd, wt, lf, rt⟩ : Lk))]).map dnS)) W3) := by
          show Jx _ _
          rw [List.map_append, List.map_singleton, ← List.append_assoc, ← HP.out.2]
          exact hJx3
        have HKT : Hid (KeepsT TnC W2.heap.size Wc W3) := by rw [hs1]; exact hk3.mono (by omega) TnC_TnI
        have HDK3 : Hid (W3.heap[D]? = some (.deferred (some []))) := hk3.same _ _ hDy HDK.out (Or.inl rfl)
        clear hJx3 hk3
        gi_wp2
        exact ⟨HKT.out, HX3.out, HDK3.out⟩
    case done2 =>
      rintro D2 We hD2 ⟨hi, hDk⟩ hK
      have HHI : Hid (J (numd 0 (stds h)) We) := hi.j
      have HKD : Hid (We.heap[D2]? = some (.deferred (some []))) := hK
      have HKE : Hid ((We.putObj D2 (.deferred none)).heap[D]? = some (.deferred (some []))) := (World.putObj_heap_other (by omega)).trans hDk
      have HT : Hid (Turn TnI y We ((We.putObj D2 (.deferred none)).putObj D (.deferred none))) := ((Turn.refl _ _ _).putObj (by omega) hK (Or.inl rfl) _).putObj hDy HKE.out (Or.inl rfl) _
      clear hi hDk hK
      gi_wp2
      refine ⟨by simp, .inl ⟨_, _, rfl, run_takeDeferred HKD.out, ?_⟩⟩
      refine ⟨by simp, .inl ⟨_, _, rfl, run_takeDeferred HKE.out, ?_⟩⟩
      exact ⟨_, results_none rfl _ _ _, ⟨_, rfl⟩, Or.inl (HJ.out _ _ _ HHI.out HT.out)⟩
    case stop2 =>
      rintro D2 pre We hD2 hp ⟨hi, hDk⟩ hK
      have HPP : Hid (numd 0 ((rkL h.upF h.up).map upS ++ pre.map dnS) <+: numd 0 (stds h)) := by
        obtain ⟨t, ht⟩ := hp
        show _ <+: _
        rw [stds, ← ht, List.map_append, ← List.append_assoc, numd_append ((rkL h.upF h.up).map upS ++ pre.map dnS)]
        exact List.prefix_append _ _
      have HHI : Hid (Jx (numd 0 ((rkL h.upF h.up).map upS ++ pre.map dnS)) We) := hi
      have HKD : Hid (We.heap[D2]? = some (.deferred (some []))) := hK
      have HKE : Hid ((We.putObj D2 (.deferred none)).heap[D]? = some (.deferred (some []))) := (World.putObj_heap_other (by omega)).trans hDk
      have HT : Hid (Turn TnI y We ((We.putObj D2 (.deferred none)).putObj D (.deferred none))) := ((Turn.refl _ _ _).putObj (by omega) hK (Or.inl rfl) _).putObj hDy HKE.out (Or.inl rfl) _
      clear hi hDk hK
      gi_wp2
      refine ⟨by simp, .inl ⟨_, _, rfl, run_takeDeferred HKD.out, ?_⟩⟩
      refine ⟨by simp, .inl ⟨_, _, rfl, run_takeDeferred HKE.out, ?_⟩⟩
      exact ⟨_, results_none rfl _ _ _, ⟨_, rfl⟩, Or.inr ⟨_, HPP.out, HJx.out _ _ _ HHI.out HT.out⟩⟩
  case stop =>
    rintro D pre Wd hD hp hi hK
    have HX : Hid (Jx (numd 0 (pre.map upS)) Wd) := hi
    have HKD : Hid (Wd.heap[D]? = some (.deferred (some []))) := hK
    clear hi hK
    gi_wp2
    refine ⟨by simp, .inl ⟨_, _, rfl, run_takeDeferred HKD.out, ?_⟩⟩
    have hPP : numd 0 (pre.map upS) <+: numd 0 (stds h) := by
      obtain ⟨t, ht⟩ := hp
      rw [stds, ← ht, List.map_append, List.append_assoc, numd_append (pre.map upS)]
      exact List.prefix_append _ _
    exact ⟨_, results_none rfl _ _ _, ⟨_, rfl⟩, Or.inr ⟨_, hPP, HJx.out _ _ _ HX.out ((Turn.refl _ _ _).putObj (by omega) HKD.out (Or.inl rfl) _)⟩⟩
end Go.Proofs.YtodilocmfdeehaaGreatDoor.Hi
