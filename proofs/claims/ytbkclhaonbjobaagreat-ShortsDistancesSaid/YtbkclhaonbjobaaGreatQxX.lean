/- The graph's distances by the document's function; the overlay as the law tells it, under way in memory. ShortsDistances, where the graph is right and small and the list short. -/
import Derived.Test.YtbkclhaonbjobaaGreatQkX
import Derived.Test.YtbkclhaonbjobaaGreatDsW
import Derived.Test.YtbkclhaonbjobaaGreatQyX
import Derived.Maps.AppendAt
import Derived.Test.YtbkclhaonbjobaaGreatQoX
namespace Go.Proofs.YtbkclhaonbjobaaGreat.Wt
open Go Go.RowKit Go.Extern Go.Deep

attribute [local go_sem] Oper.semAt_some

theorem ini_same (xs : List (Int × Int × Int)) : Ds.ini xs = Dt.ini (fun _ => true) xs := by
  have h0 : Ds.f00 = Dt.f00 (fun _ => true) := by
    funext i j
    unfold Ds.f00 Dt.f00 Ds.far Dt.far
    by_cases h : i = j <;> simp [h]
  have hf : Ds.arcF = Dt.arcF := rfl
  unfold Ds.ini Dt.ini
  rw [h0, hf]
theorem phs_same (f : Dt.Mx) : ∀ k, Ds.phs f k = Dt.phs f k
  | 0 => rfl
  | k + 1 => by
    unfold Ds.phs Dt.phs
    rw [phs_same f k]
    rfl
theorem dist_same (n : Nat) (xs : List (Int × Int × Int)) : Ds.dist n xs = Dt.dist n (fun _ => true) xs := by
  unfold Ds.dist Dt.dist
  rw [ini_same, phs_same]
theorem mat_same {B : Nat} {wx : World} {db n m : Nat} {rs : Nat → Nat} {f : Dt.Mx} (h : Ds.MatP B wx db n m rs f) : Dt.MatP B wx db n m rs f := ⟨h.top, h.row, h.far, h.inj, h.base⟩
/-- viaductref04.Distances of a right small graph. -/
theorem gdist_calls (n : Nat) (hn : n ≤ 12) (ao : Option Addr) (cap : Nat) (xs : List (Int × Int × Int)) (w : World) (hX : HasArcs w (.slice ao xs.length cap) xs) (hg : graphErr (n : Int) xs = (0, [])) (hm : xs.length ≤ 262144) : Calls Tryz.prog 8 #[.agg #[.int .i64 n, .slice ao xs.length cap]] w fun e w' => ∃ db rs, e = .returned (.slice (some ⟨db, 0, none⟩) n n) ∧ Dt.MatP w.heap.size w' db n n rs (Dt.dist n (fun _ => true) xs) ∧ Below w.heap.size w w' := by
  refine (Ds.dist_calls n hn ao xs.length cap xs w hX (fun a ha => ?_) (fun a ha => ?_) hm).mono ?_
  · have := graph_arc hg ha
    exact ⟨this.2.1, this.2.2.2.1⟩
  · have := graph_arc hg ha
    exact ⟨this.1, this.2.2.1, this.2.2.2.2.1, this.2.2.2.2.2⟩
  · rintro e w' ⟨db, rs, he, hM, hb⟩
    rw [dist_same] at hM
    exact ⟨db, rs, he, mat_same hM, hb⟩
/-- a guarded matrix. -/
theorem mat_lies {PX : Nat → Option Obj} {w : World} {B0 pb n db m : Nat} {bs : List Bool} {R : Bool → Nat → Rw} {nodes arcs : Int} {K : Nat} {W : World} {rs : Nat → Nat} {f : Dt.Mx} (h : IsOv (wrapP PX K W) B0 w pb n bs R nodes arcs) (hM : Dt.MatP K W db n m rs f) : Dt.MatP K w db n m rs f := by
  have hl := h.lies
  have hp : ∀ X o, K ≤ X → W.heap[X]? = some o → w.heap[X]? = some o := fun X o h1 h2 => hl X o (by unfold wrapP; rw [if_pos h1]; exact h2)
  exact ⟨hp _ _ hM.base.1 hM.top, fun i hi => hp _ _ (hM.base.2 i hi) (hM.row i hi), hM.far, hM.inj, hM.base⟩
theorem ov_outO {PX : Nat → Option Obj} {w : World} {B0 pb n : Nat} {bs : List Bool} {R : Bool → Nat → Rw} {nodes arcs : Int} (h : IsOv PX B0 w pb n bs R nodes arcs) (x : Int) : Calls Tryz.prog 11 #[.pointer (some ⟨pb, 0, none⟩), .int .i64 x] w fun e w' => ∃ so sc, e = .returned (.slice so (outM n bs R false x).length sc) ∧ w'.ownsRow w.heap.size 49 3 (.slice so (outM n bs R false x).length sc) (outM n bs R false x).length (flatH (outM n bs R false x)) ∧ Below w.heap.size w w' := by
  refine (h.out x).mono ?_
  rintro e w' ⟨v', rfl, h1, h2, h3⟩
  unfold outM
  cases hx : aliveB n bs x with
  | false =>
    rw [h1 hx]
    exact ⟨none, 0, rfl, World.ownsRow_nil _ _ _ _, h3⟩
  | true =>
    have h4 := h2 hx
    obtain ⟨so, sc, rfl⟩ := rowH_slice h4
    exact ⟨so, sc, rfl, h4, h3⟩
/-- append of an arc: where the row lies then. -/
theorem wpList_append_a4A {w : World} {ops : Array Oper} {rest : List Oper} {o : Oper} {a : Act} {Q : Exit → Act → World → Prop} (hgd : o.guard = none) (s x : Operand)
    (ho : o.op = .call { callee := .builtin .append, args := #[s, x], argTypes := #[42, 42] })
    (base : Nat) (v : Value) (L : List A4) (hs : a.eval s = v) (hown : w.ownsRow base 51 4 v L.length (flatA4 L))
    (ad : Addr) (ac : Nat) (xs : List A4) (hx : a.eval x = .slice (some ad) xs.length ac) (hl : HasA4 w (.slice (some ad) xs.length ac) xs)
    (hlen : L.length + xs.length ≤ 1048576) (hbase : base ≤ w.heap.size)
    (h : ∀ v' w', w'.ownsRow base 51 4 v' (L ++ xs).length (flatA4 (L ++ xs)) → w.grownBy w' v.ownBlock → (v'.ownBlock = v.ownBlock ∨ v'.ownBlock = some w.heap.size) → wpList Tryz.prog ops Q rest (a.put o.dst v') w') : wpList Tryz.prog ops Q (o :: rest) a w := by
  obtain ⟨i0, hi, hz0, hz1, hz2⟩ : ∃ i, Tryz.prog.info? 51 = some i ∧ i.zero = some (.agg #[.int .i64 0, .int .i64 0, .int .u64 0, .int .i64 0]) ∧ i.size = 4 ∧ i.bytes = 32 := by
    have h := Tryz.infoA4
    cases hi : Tryz.prog.info? 51 with
    | none => rw [hi] at h; cases h
    | some i => rw [hi] at h; simp at h; exact ⟨i, rfl, h.1, h.2.1, h.2.2⟩
  refine wpList_append_own_at _ hgd s x 42 ho base 51 i0 _ 4 32 Tryz.underlying42 hi hz0 hz1 hz2 rfl (by decide) v L.length (flatA4 L) hs hown ad xs.length ac (flatA4 xs) hx (flatA4_len xs) (flatA4_at hl) (flatA4_one xs) (by unfold maxLen; omega) (by omega) hbase ?_
  intro v' w' h1 h2 _ h4
  exact h v' w' (by rw [List.length_append, flatA4_append]; exact h1) h2 h4
/-- the overlay as the law tells it, under way: its box, its flags, its growing row of arcs, beside memory that stays (from P to Q). -/
structure NowS (n nb fb P Q : Nat) (w0 wq wr : World) (fl : List Bool) (av : Value) (L : List A4) : Prop where
  box : wr.heap[nb]? = some (.cells #[.slice (some ⟨fb, 0, none⟩) n n, av] 44)
  flg : wr.heap[fb]? = some (.cells (fl.map Value.bool).toArray 4)
  row : wr.ownsRow w0.heap.size 51 4 av L.length (flatA4 L)
  out : ∀ g, av.ownBlock = some g → (g < P ∨ Q ≤ g) ∧ g ≠ nb ∧ g ≠ fb
  hole : (nb < P ∨ Q ≤ nb) ∧ (fb < P ∨ Q ≤ fb)
  base : nb ≠ fb ∧ w0.heap.size ≤ nb ∧ w0.heap.size ≤ fb
  below : Below w0.heap.size w0 wr
  keep : ∀ j, P ≤ j → j < Q → wr.heap[j]? = wq.heap[j]?
  size : Q ≤ wr.heap.size
section
variable {n nb fb P Q : Nat} {w0 wq wr wx w' : World} {fl : List Bool} {av v' : Value} {L : List A4} {y : A4}
theorem NowS.later (h : NowS n nb fb P Q w0 wq wr fl av L) (hb : Below wr.heap.size wr wx) : NowS n nb fb P Q w0 wq wx fl av L :=
  ⟨(hb.block _ (lt_of_get h.box)).trans h.box, (hb.block _ (lt_of_get h.flg)).trans h.flg, row_below9 h.row hb, h.out, h.hole, h.base, h.below.trans (hb.mono h.below.size), fun j h1 h2 => (hb.block j (Nat.lt_of_lt_of_le h2 h.size)).trans (h.keep j h1 h2), Nat.le_trans h.size hb.size⟩
theorem NowS.over (h : NowS n nb fb P Q w0 wq wr fl av L) (hb : Below wr.heap.size wr wx) : NowS n nb fb wr.heap.size wx.heap.size w0 wx wx fl av L :=
  ⟨(hb.block _ (lt_of_get h.box)).trans h.box, (hb.block _ (lt_of_get h.flg)).trans h.flg, row_below9 h.row hb, fun g hg => ⟨Or.inl (h.row.lt g hg).2, (h.out g hg).2⟩, ⟨Or.inl (lt_of_get h.box), Or.inl (lt_of_get h.flg)⟩, h.base, h.below.trans (hb.mono h.below.size), fun _ _ _ => rfl, Nat.le_refl _⟩
theorem NowS.fill (h : NowS n nb fb P Q w0 wq wr fl av L) : NowS n nb fb 0 0 w0 w0 wr fl av L :=
  ⟨h.box, h.flg, h.row, fun g hg => ⟨Or.inr (Nat.zero_le _), (h.out g hg).2⟩, ⟨Or.inr (Nat.zero_le _), Or.inr (Nat.zero_le _)⟩, h.base, h.below, fun _ _ h2 => absurd h2 (Nat.not_lt_zero _), Nat.zero_le _⟩
/-- one arc more: appended, and the box written. -/
theorem NowS.add (h : NowS n nb fb P Q w0 wq wr fl av L) (ho : w'.ownsRow w0.heap.size 51 4 v' (L ++ [y]).length (flatA4 (L ++ [y]))) (hg : wr.grownBy w' av.ownBlock) (hv : v'.ownBlock = av.ownBlock ∨ v'.ownBlock = some wr.heap.size) : NowS n nb fb P Q w0 wq (w'.setCell ⟨nb, 1, none⟩ v') fl v' (L ++ [y]) := by
  have hbl := lt_of_get h.box
  have hfl := lt_of_get h.flg
  have hnv : ∀ g, v'.ownBlock = some g → (g < P ∨ Q ≤ g) ∧ g ≠ nb ∧ g ≠ fb := fun g e => by
    rcases hv with hv | hv
    · exact h.out g (by rw [← hv]; exact e)
    · rw [hv] at e
      have := Option.some.inj e
      have := h.size
      exact ⟨Or.inr (by omega), by omega, by omega⟩
  have k1 : w'.heap[nb]? = wr.heap[nb]? := hg.block nb hbl (fun e => (h.out nb e.symm).2.1 rfl)
  have k2 : w'.heap[fb]? = wr.heap[fb]? := hg.block fb hfl (fun e => (h.out fb e.symm).2.2 rfl)
  refine ⟨?_, (heap_setCell_other _ _ _ _ (Ne.symm h.base.1)).trans (k2.trans h.flg), row_keep9 ho fun g e => heap_setCell_other _ _ _ _ (hnv g e).2.1, hnv, h.hole, h.base, (below_grown9 h.below h.row hg h.below.size (Nat.le_refl _)).setCell (p := ⟨nb, 1, none⟩) h.base.2.1 _, fun j h1 h2 => (heap_setCell_other _ _ _ _ (fun e => by have e2 : j = nb := e; have := h.hole.1; omega)).trans ((hg.block j (Nat.lt_of_lt_of_le h2 h.size) (fun e => by have := (h.out j e.symm).1; omega)).trans (h.keep j h1 h2)), ?_⟩
  · rw [Dt.hs_same _ (k1.trans h.box)]
    rfl
  · rw [show (w'.setCell ⟨nb, 1, none⟩ v').heap.size = w'.heap.size by simp [World.setCell]]
    exact Nat.le_trans h.size hg.size
/-- a flag is written. -/
theorem NowS.flag (h : NowS n nb fb 0 0 w0 wq wr fl av L) (k : Nat) (b : Bool) : NowS n nb fb 0 0 w0 wq (wr.setCell ⟨fb, k, none⟩ (.bool b)) (fl.set k b) av L := by
  refine ⟨(heap_setCell_other _ _ _ _ h.base.1).trans h.box, ?_, row_keep9 h.row fun g e => heap_setCell_other _ _ _ _ (h.out g e).2.2, h.out, h.hole, h.base, h.below.setCell (p := ⟨fb, k, none⟩) h.base.2.2 _, fun _ _ h2 => absurd h2 (Nat.not_lt_zero _), Nat.zero_le _⟩
  rw [Dt.hs_same _ h.flg, List.setIfInBounds_toArray, List.map_set]
theorem NowS.cells (h : NowS n nb fb P Q w0 wq wr fl av L) : wr.cell? ⟨nb, 0, none⟩ = some (.slice (some ⟨fb, 0, none⟩) n n) ∧ wr.cell? ⟨nb, 1, none⟩ = some av ∧ nb < wr.heap.size ∧ wr.frozen? ⟨nb, 1, none⟩ = false := by
  have hb := h.box
  exact ⟨by simp [World.cell?, hb], by simp [World.cell?, hb], lt_of_get hb, by simp [World.frozen?, hb]⟩
theorem NowS.flagAt (h : NowS n nb fb P Q w0 wq wr fl av L) {k : Nat} (hk : k < fl.length) : wr.cell? ⟨fb, k, none⟩ = some (.bool (liv fl k)) ∧ wr.frozen? ⟨fb, k, none⟩ = false ∧ fb < wr.heap.size := by
  refine ⟨?_, by simp [World.frozen?, h.flg], lt_of_get h.flg⟩
  simp [World.cell?, h.flg, liv, List.getElem?_eq_getElem hk]
theorem NowS.hasFl (h : NowS n nb fb P Q w0 wq wr fl av L) (hl : fl.length = n) : HasFl wr (.slice (some ⟨fb, 0, none⟩) n n) fl := by
  subst hl
  exact ⟨_, _, rfl, fun m hm => ⟨fb, rfl, lt_of_get h.flg, (h.flagAt hm).1⟩⟩
theorem NowS.hasA4 (h : NowS n nb fb P Q w0 wq wr fl av L) : HasA4 wr av L := a4_of_row h.row
end
end Go.Proofs.YtbkclhaonbjobaaGreat.Wt

namespace Go.Proofs.YtbkclhaonbjobaaGreat.Wt
open Go Go.RowKit Go.Extern Go.Deep

attribute [local go_sem] Oper.semAt_some

/-- the flags as the law writes them, the first k. -/
def flg (n : Nat) (bs : List Bool) (k : Nat) : List Bool := (List.range n).map fun i => decide (i < k) && liv bs i
theorem flg_len (n : Nat) (bs : List Bool) (k : Nat) : (flg n bs k).length = n := by unfold flg; simp
theorem flg_get (n : Nat) (bs : List Bool) (k : Nat) {i : Nat} (h : i < n) : (flg n bs k)[i]? = some (decide (i < k) && liv bs i) := by
  unfold flg
  rw [List.getElem?_map, List.getElem?_range h]
  rfl
theorem flg_zero (n : Nat) (bs : List Bool) : flg n bs 0 = List.replicate n false := by
  apply List.ext_getElem?
  intro i
  by_cases h : i < n
  · rw [flg_get n bs 0 h, List.getElem?_replicate, if_pos h]
    simp
  · rw [List.getElem?_eq_none (by rw [flg_len]; omega), List.getElem?_eq_none (by simp; omega)]
theorem flg_set (n : Nat) (bs : List Bool) (k : Nat) : (flg n bs k).set k (liv bs k) = flg n bs (k + 1) := by
  apply List.ext_getElem?
  intro i
  by_cases h : i < n
  · rw [flg_get n bs (k + 1) h]
    by_cases e : k = i
    · subst e
      rw [List.getElem?_set_self (by rw [flg_len]; exact h)]
      simp
    · rw [List.getElem?_set_ne e, flg_get n bs k h]
      by_cases g : i < k
      · simp [g, show i < k + 1 by omega]
      · simp [g, show ¬ i < k + 1 by omega]
  · rw [List.getElem?_eq_none (by rw [List.length_set, flg_len]; omega), List.getElem?_eq_none (by rw [flg_len]; omega)]
theorem flg_all {n : Nat} {bs : List Bool} (h : bs.length = n) : flg n bs n = bs := by
  apply List.ext_getElem?
  intro i
  by_cases hi : i < n
  · rw [flg_get n bs n hi]
    unfold liv
    rw [List.getElem?_eq_getElem (by omega)]
    simp [hi]
  · rw [List.getElem?_eq_none (by rw [flg_len]; omega), List.getElem?_eq_none (by omega)]
/-- the made overlay. -/
theorem now_made {w : World} {n : Nat} : NowS n (w.heap.size + 1) w.heap.size 0 0 w w ((w.alloc (.cells (madeCells #[.bool false] n) 4)).alloc (.cells #[.slice (some ⟨w.heap.size, 0, none⟩) n n, .slice none 0 0] 44)) (List.replicate n false) (.slice none 0 0) [] := by
  obtain ⟨k0, k1, kB⟩ := two_new w (.cells (madeCells #[.bool false] n) 4) (.cells #[.slice (some ⟨w.heap.size, 0, none⟩) n n, .slice none 0 0] 44)
  refine ⟨k1, ?_, World.ownsRow_nil _ _ _ _, (fun g e => by cases e), ⟨Or.inr (Nat.zero_le _), Or.inr (Nat.zero_le _)⟩, ⟨by omega, by omega, by omega⟩, kB, fun _ _ h => absurd h (Nat.not_lt_zero _), Nat.zero_le _⟩
  rw [k0, made_bs]
  rfl
theorem liv_alive {n : Nat} {bs : List Bool} {k : Nat} (hk : k < n) : aliveB n bs (k : Int) = liv bs k := by
  cases h : liv bs k with
  | true => exact aliveB_iff.2 ⟨k, rfl, hk, h⟩
  | false =>
    cases g : aliveB n bs (k : Int) with
    | false => rfl
    | true =>
      obtain ⟨u, e, _, hl⟩ := aliveB_iff.1 g
      obtain rfl : k = u := by omega
      rw [h] at hl; cases hl
theorem alive_gone {n : Nat} {bs : List Bool} (v : Nat) : aliveB n (bs.set v false) (v : Int) = false := by
  cases g : aliveB n (bs.set v false) (v : Int) with
  | false => rfl
  | true =>
    obtain ⟨u, e, _, hl⟩ := aliveB_iff.1 g
    obtain rfl : v = u := by omega
    rw [liv_set, if_pos rfl] at hl; cases hl
theorem tied_few9 {n : Nat} {bs : List Bool} {R : Bool → Nat → Rw} {zs : List A4} (ht : Tied n bs R zs) (hi : OvInv n bs R) (hn : n ≤ 12) : zs.length ≤ 190000 := by
  have h1 := ht.arcs hi
  have h2 : arcSum n bs R ≤ n * n := sumN_le n _ n fun u hu => by
    have h3 : (rowL bs R false u).length ≤ n := rise_few (rowL_rise hi false hu) fun a ha => by
      obtain ⟨m, e, hm, _⟩ := rowL_at hi false hu ha
      omega
    exact h3
  have h3 := Nat.mul_le_mul hn hn
  omega
/-- a half as an arc. -/
def arcU (u : Nat) (h : H3) : A4 := ((u : Int), h.1, h.2.1, (0 : Int))
/-- what Contract leaves to the law. -/
def ContA (PX : Nat → Option Obj) (B0 : Nat) (w : World) (pb n : Nat) (bs : List Bool) (xs : List (Int × Int × Int)) (v : Int) (e : Ending) (w' : World) : Prop := ∃ lv ev bs' R' zs', e = .returned (.tuple #[lv, ev]) ∧ ((aliveB n bs v = false ∧ ev = .iface 104 (.int .i64 7)) ∨ (aliveB n bs v = true ∧ ev = .nilIface)) ∧ OvT PX B0 w' pb n bs' R' zs' ∧ aliveB n bs' v = false ∧ ZB zs' ∧ Kept9 n bs' zs' xs ∧ Below B0 w w'
theorem contA_calls {PX : Nat → Option Obj} {w : World} {B0 pb n : Nat} {bs : List Bool} {R : Bool → Nat → Rw} {zs : List A4} {xs : List (Int × Int × Int)} (hg : graphErr (n : Int) xs = (0, [])) (h : OvT PX B0 w pb n bs R zs) (hz : ZB zs) (hk : Kept9 n bs zs xs) (hn : n ≤ 12) (v o0 o1 o2 o3 o4 : Int) :
    Calls Tryz.prog 10 #[.pointer (some ⟨pb, 0, none⟩), .int .i64 v, .agg #[.int .i64 o0, .int .i64 o1, .int .i64 o2, .int .i64 o3, .int .i64 o4]] w (ContA PX B0 w pb n bs xs v) := by
  refine (cont_calls h hz hn (tied_few9 h.2 h.1.inv hn) v o0 o1 o2 o3 o4).mono ?_
  rintro e w' (⟨hal, rfl, hov, hb⟩ | ⟨hal, so, sc, R', rfl, _, hov, hb⟩)
  · exact ⟨_, _, bs, R, zs, rfl, Or.inl ⟨hal, rfl⟩, hov, hal, hz, hk, hb.mono h.1.size⟩
  · obtain ⟨u, rfl, hun, hul⟩ := aliveB_iff.1 hal
    rw [Int.toNat_natCast] at hov
    have hzb : ZB (contZ (u : Int) zs (needL n bs R (u : Int) (min (max o0 0) 1048576) (min (max o1 0) 1048576))) := putsZ_zb _ _ _ (fun a ha => hz a (remZ_mem.1 ha).1) fun s hs => (need_ok h.2 h.1.inv hz hs).2.2.2
    exact ⟨_, _, bs.set u false, R', _, rfl, Or.inr ⟨hal, rfl⟩, hov, alive_gone u, hzb, kept9_cont hg hk h.2 h.1.inv hz hn _ _ hov.2 hzb, hb⟩
end Go.Proofs.YtbkclhaonbjobaaGreat.Wt
