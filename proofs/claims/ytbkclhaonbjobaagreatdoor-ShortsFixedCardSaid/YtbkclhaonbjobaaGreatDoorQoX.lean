/- the reference's overlay beside the program's: DocFind on it; weights. a call of the script, on the program's overlay: Put, Remove, whatever they are handed. a round of the script: the state between the program's call and the reference's; how it closes. what the reference's Put answers beside the program's. viaductlaw12.laid, where the graph is right and small: both overlays behind a script. laid, where the graph is wrong or large, or the script long. SameRow at rows told by their cells; what two searches answer is the same row. viaductref02.TwinInts. (The texts of csr, in this namespace.) Goals answered one by one; the node itself is at nought. A bound on how far a search goes tells nothing of what lies nearer. -/
import Derived.Test.YtbkclhaonbjobaaGreatDoorQkX
import Derived.Test.YtbkclhaonbjobaaGreatDoorQsX
import Derived.Test.YtbkclhaonbjobaaGreatDoorQvX
import Derived.BigRegion
import Derived.BigQuiet
namespace Go.Proofs.YtbkclhaonbjobaaGreatDoor.Wt
open Go Go.RowKit Go.Extern

attribute [local go_sem] Oper.semAt_some

/-- no arc weighs more than what counts. -/
def ZB (zs : List A4) : Prop := ∀ a ∈ zs, 0 ≤ a.2.2.1 ∧ a.2.2.1 ≤ 140737488355328
theorem ZB.rem {zs : List A4} (h : ZB zs) (x : Int) : ZB (remZ zs x) := fun a ha => h a (remZ_mem.1 ha).1
theorem ZB.put {zs : List A4} (h : ZB zs) {a : A4} (ha : 0 ≤ a.2.2.1 ∧ a.2.2.1 ≤ 140737488355328) : ZB (putZ zs a) := fun b hb => by
  rcases putZ_mem.1 hb with ⟨h1, _⟩ | rfl
  · exact h b h1
  · exact ha
theorem outM_row {n : Nat} {bs : List Bool} {R : Bool → Nat → Rw} (v : Nat) : outM n bs R false (v : Int) = rowW n bs R v := by
  unfold outM rowW
  rfl
theorem rowsW_tied {n : Nat} {bs : List Bool} {R : Bool → Nat → Rw} {zs : List A4} (h : Tied n bs R zs) (hi : OvInv n bs R) (hb : ZB zs) : RowsW n (rowW n bs R) := by
  refine ⟨fun v hv => ?_, fun v hv a ha => ?_⟩
  · unfold rowW
    split
    · exact (hi.ok.rise false v hv).filter _
    · exact List.Pairwise.nil
  · have h1 := (rowW_mem ha).1
    have h2 := hi.ok.node false v hv a h1
    refine ⟨h2.1, h2.2, hi.self false v hv a h1, ?_⟩
    rw [← outM_row, ← h.outM hi] at ha
    have h3 := sideA_mem_false.1 ((sortA_mem _).1 ha)
    exact hb _ h3
theorem ovF_tied {PX : Nat → Option Obj} {w : World} {B0 pb n : Nat} {bs : List Bool} {R : Bool → Nat → Rw} {nodes arcs : Int} (h : IsOv PX B0 w pb n bs R nodes arcs) (hr : RowsW n (rowW n bs R)) : OvF w ⟨pb, 0, none⟩ n (aliveB n bs) (rowW n bs R) := by
  refine ⟨fun wx hb x => (h.keep hb).alive x, fun wx hb v hv => ?_, fun x hx => ?_, fun v hv => rise_few (hr.rise v hv) fun a ha => ⟨(hr.ends v hv a ha).1, (hr.ends v hv a ha).2.1⟩, fun v hv a ha => by have := hr.ends v hv a ha; exact ⟨this.1, this.2.1, this.2.2.2⟩⟩
  · refine ((h.keep hb).out (v : Int)).mono ?_
    rintro e w' ⟨v', rfl, h1, h2, hb2⟩
    rw [Int.toNat_natCast] at h2
    unfold rowW
    cases ha : aliveB n bs (v : Int) with
    | false =>
      rw [h1 ha, if_neg (by simp)]
      exact ⟨none, 0, rfl, World.ownsRow_nil _ _ _ _, hb2⟩
    | true =>
      have h3 := h2 ha
      rw [if_pos rfl]
      obtain ⟨so, sc, rfl⟩ := rowH_slice h3
      exact ⟨so, sc, rfl, h3, hb2⟩
  · obtain ⟨u, h1, h2, _⟩ := aliveB_iff.1 hx
    exact ⟨u, h1, h2⟩
section
variable {PX : Nat → Option Obj} {w : World} {B0 pb n : Nat} {bs : List Bool} {R : Bool → Nat → Rw} {zs : List A4}
end
end Go.Proofs.YtbkclhaonbjobaaGreatDoor.Wt

namespace Go.Proofs.YtbkclhaonbjobaaGreatDoor.Wt
open Go Go.RowKit Go.Extern

attribute [local go_sem] Oper.semAt_some

/-- what a Put makes of the arcs. -/
def PutZ (n : Nat) (bs : List Bool) (R : Bool → Nat → Rw) (zs : List A4) (x y wt via : Int) (zs' : List A4) : Prop :=
  (putErr n bs x y wt via ≠ 0 ∧ zs' = zs) ∨ (putErr n bs x y wt via = 0 ∧ (∃ k, weightM n bs R x y = some k ∧ k ≤ wt) ∧ zs' = zs) ∨ (putErr n bs x y wt via = 0 ∧ (∀ k, weightM n bs R x y = some k → wt < k) ∧ zs' = putZ zs (x, y, wt, via))
theorem putErr_wt {n : Nat} {bs : List Bool} {x y wt via : Int} (h : putErr n bs x y wt via = 0) : wt ≤ 140737488355328 := by
  unfold putErr at h
  split at h
  · split at h
    · omega
    · split at h
      · omega
      · omega
  · omega
theorem PutZ.zb {n : Nat} {bs : List Bool} {R : Bool → Nat → Rw} {zs zs' : List A4} {x y wt via : Int} (h : PutZ n bs R zs x y wt via zs') (hb : ZB zs) (h0 : 0 ≤ wt) : ZB zs' ∧ zs'.length ≤ zs.length + 1 := by
  rcases h with ⟨_, rfl⟩ | ⟨_, _, rfl⟩ | ⟨h1, _, rfl⟩
  · exact ⟨hb, by omega⟩
  · exact ⟨hb, by omega⟩
  · exact ⟨hb.put ⟨h0, putErr_wt h1⟩, putZ_len _⟩
section
variable {PX : Nat → Option Obj} {w : World} {B0 pb n : Nat} {bs : List Bool} {R : Bool → Nat → Rw} {zs : List A4} {av lv : Value}
theorem both_put (h : Both PX B0 w pb n bs R zs av lv) (hz : zs.length ≤ 200000) (x y wt via : Int) :
    Calls Tryz.prog 25 #[.pointer (some ⟨pb, 0, none⟩), .int .i64 x, .int .i64 y, .int .u64 wt, .int .i64 via] w fun e w' => ∃ r0 r1 R' zs', e = .returned (.tuple #[r0, r1]) ∧ IsOv PX B0 w' pb n bs R' ((aliveN n bs : Nat) : Int) ((zs'.length : Nat) : Int) ∧ Tied n bs R' zs' ∧ PutZ n bs R zs x y wt via zs' ∧ Below B0 w w' := by
  have hs := h.ov.size
  by_cases hc : putErr n bs x y wt via = 0
  · by_cases hk : ∀ k, weightM n bs R x y = some k → wt < k
    · refine (h.putNew hz x y wt via hc hk).mono ?_
      rintro e w' ⟨R', rfl, h1, h2, h3⟩
      exact ⟨_, _, R', _, rfl, h1, h2, Or.inr (Or.inr ⟨hc, hk, rfl⟩), h3⟩
    · refine (h.ov.put x y wt via (by omega)).mono ?_
      rintro e w' (⟨c, h0, h1, _⟩ | ⟨k, h1, h2, rfl, hb⟩ | ⟨a, b, v1, v2, rfl, rfl, h3, _⟩)
      · exact absurd (h1.symm.trans hc) h0
      · exact ⟨_, _, R, zs, rfl, h.ov.keep hb, h.tie, Or.inr (Or.inl ⟨hc, ⟨k, h1, h2⟩, rfl⟩), hb.mono hs⟩
      · exact absurd h3 hk
  · have ho := h.ov
    obtain ⟨B, ab, sb, h0, h1, h2⟩ := h.ov
    refine (oPutErr h1 x y wt via hc).mono ?_
    rintro e w' ⟨rfl, rfl⟩
    exact ⟨_, _, R, zs, rfl, ho, h.tie, Or.inl ⟨hc, rfl⟩, (Below.refl _ _).mono hs⟩
theorem both_remove (h : Both PX B0 w pb n bs R zs av lv) (hz : zs.length ≤ 200000) (x : Int) :
    Calls Tryz.prog 29 #[.pointer (some ⟨pb, 0, none⟩), .int .i64 x] w fun e w' => ∃ r bs' R' zs', e = .returned r ∧ IsOv PX B0 w' pb n bs' R' ((aliveN n bs' : Nat) : Int) ((zs'.length : Nat) : Int) ∧ Tied n bs' R' zs' ∧ ((aliveB n bs x = false ∧ bs' = bs ∧ zs' = zs) ∨ (aliveB n bs x = true ∧ ∃ u : Nat, x = (u : Int) ∧ u < n ∧ bs' = bs.set u false ∧ zs' = remZ zs (u : Int))) ∧ Below B0 w w' := by
  cases hx : aliveB n bs x with
  | false =>
    have hA : aliveN n bs ≤ n * 1 := sumN_le n _ 1 (fun i _ => by split <;> omega)
    have hn := h.ov.bl.2
    refine (h.ov.remove x (by omega) (by omega)).mono ?_
    rintro e w' (⟨_, rfl, rfl⟩ | ⟨h1, _⟩)
    · exact ⟨_, bs, R, zs, rfl, h.ov, h.tie, Or.inl ⟨rfl, rfl, rfl⟩, (Below.refl _ _).mono h.ov.size⟩
    · rw [hx] at h1; cases h1
  | true =>
    refine (h.remYes hz x hx).mono ?_
    rintro e w' ⟨u, R', rfl, hu, rfl, h1, h2, h3⟩
    exact ⟨_, _, R', _, rfl, h1, h2, Or.inr ⟨rfl, u, rfl, hu, rfl, rfl⟩, h3⟩
end
end Go.Proofs.YtbkclhaonbjobaaGreatDoor.Wt

namespace Go.Proofs.YtbkclhaonbjobaaGreatDoor.Wt
open Go Go.RowKit Go.Extern

attribute [local go_sem] Oper.semAt_some

/-- the program's overlay has gone on, the reference's rows lie as they did. -/
structure Mid (PX : Nat → Option Obj) (B0 : Nat) (w : World) (pb n : Nat) (bs' : List Bool) (R' : Bool → Nat → Rw) (zs' : List A4) (bs : List Bool) (zs : List A4) (av lv : Value) : Prop where
  ov : IsOv PX B0 w pb n bs' R' ((aliveN n bs' : Nat) : Int) ((zs'.length : Nat) : Int)
  tie : Tied n bs' R' zs'
  bl : bs.length = n
  fl : w.ownsRow 0 4 1 av n (bs.map Value.bool)
  ar : w.ownsRow 0 86 4 lv zs.length (flatA4 zs)
  hf : Held PX av
  ha : Held PX lv
section
variable {PX : Nat → Option Obj} {w w' wy : World} {B0 pb n : Nat} {bs bs' : List Bool} {R R' : Bool → Nat → Rw} {zs zs' : List A4} {av lv av' lv' : Value}
theorem Mid.of (h : Both PX B0 w pb n bs R zs av lv) (ho : IsOv PX B0 w' pb n bs' R' ((aliveN n bs' : Nat) : Int) ((zs'.length : Nat) : Int)) (ht : Tied n bs' R' zs') : Mid PX B0 w' pb n bs' R' zs' bs zs av lv :=
  ⟨ho, ht, h.ov.bl.1, (h.after ho).1, (h.after ho).2, h.hf, h.ha⟩
theorem Mid.keep (h : Mid PX B0 w pb n bs' R' zs' bs zs av lv) (hb : Below w.heap.size w w') : Mid PX B0 w' pb n bs' R' zs' bs zs av lv :=
  ⟨h.ov.keep hb, h.tie, h.bl, below_row h.fl hb, below_row h.ar hb, h.hf, h.ha⟩
theorem Mid.hasFl (h : Mid PX B0 w pb n bs' R' zs' bs zs av lv) : HasFl w av bs := fl_of_row h.bl h.fl
theorem Mid.hasA4 (h : Mid PX B0 w pb n bs' R' zs' bs zs av lv) : HasA4 w lv zs := a4_of_row h.ar
theorem Mid.same (h : Mid PX B0 w pb n bs R' zs bs zs av lv) : Both PX B0 w pb n bs R' zs av lv := ⟨h.ov, h.tie, h.fl, h.ar, h.hf, h.ha⟩
theorem Mid.close (h : Mid PX B0 w pb n bs' R' zs' bs zs av lv) (hb : Below w.heap.size w wy) {X9 : Nat} (hX : PX X9 = some (.cells #[av, lv] 33 (0, 0))) (hB : B0 ≤ X9)
    (hav : (av' = av ∧ bs' = bs) ∨ wy.ownsRow w.heap.size 4 1 av' n (bs'.map Value.bool)) (hlv : (lv' = lv ∧ zs' = zs) ∨ wy.ownsRow w.heap.size 86 4 lv' zs'.length (flatA4 zs')) (n9 : av.ownBlock ≠ some X9 ∧ lv.ownBlock ≠ some X9) :
    Both (updP (wrapP PX w.heap.size wy) X9 (.cells #[av', lv'] 33 (0, 0))) B0 ((wy.setCell ⟨X9, 0, none⟩ av').setCell ⟨X9, 1, none⟩ lv') pb n bs' R' zs' av' lv' ∧ (av'.ownBlock ≠ some X9 ∧ lv'.ownBlock ≠ some X9) ∧ Below B0 w ((wy.setCell ⟨X9, 0, none⟩ av').setCell ⟨X9, 1, none⟩ lv') := by
  have hx9 := h.ov.lies X9 _ hX
  have hlt := lt_of_get hx9
  obtain ⟨hw1, hw2⟩ := h.ov.wrap hb
  have hy9 := (hb.block _ hlt).trans hx9
  have hs := two_set (v0 := av') (v1 := lv') hy9
  have hfl : wy.ownsRow 0 4 1 av' n (bs'.map Value.bool) := by
    rcases hav with ⟨rfl, rfl⟩ | ha
    · exact below_row h.fl hb
    · exact rowX_base ha (Nat.zero_le _)
  have har : wy.ownsRow 0 86 4 lv' zs'.length (flatA4 zs') := by
    rcases hlv with ⟨rfl, rfl⟩ | ha
    · exact below_row h.ar hb
    · exact rowX_base ha (Nat.zero_le _)
  have hhf : Held (wrapP PX w.heap.size wy) av' := by
    rcases hav with ⟨rfl, rfl⟩ | ha
    · exact h.hf.wider hw2
    · exact wrap_held (Nat.le_refl _) ha
  have hha : Held (wrapP PX w.heap.size wy) lv' := by
    rcases hlv with ⟨rfl, rfl⟩ | ha
    · exact h.ha.wider hw2
    · exact wrap_held (Nat.le_refl _) ha
  have hnf : av'.ownBlock ≠ some X9 := by
    rcases hav with ⟨rfl, rfl⟩ | ha
    · exact n9.1
    · intro e; have := (ha.lt _ e).1; omega
  have hna : lv'.ownBlock ≠ some X9 := by
    rcases hlv with ⟨rfl, rfl⟩ | ha
    · exact n9.2
    · intro e; have := (ha.lt _ e).1; omega
  have hB2 : Both (wrapP PX w.heap.size wy) B0 wy pb n bs' R' zs' av' lv' := ⟨hw1, h.tie, hfl, har, hhf, hha⟩
  exact ⟨hB2.write (hw2 _ _ hX) hs (fun j hj => (hso _ hj).trans (hso _ hj)) hnf hna, ⟨hnf, hna⟩, (hb.mono h.ov.size).trans (two_below hB)⟩
end
/-- what is guarded lies above a base. -/
def LowP (B0 : Nat) (PX : Nat → Option Obj) : Prop := ∀ X o, PX X = some o → B0 ≤ X
theorem LowP.wrap {B0 K : Nat} {PX : Nat → Option Obj} {w' : World} (h : LowP B0 PX) (hK : B0 ≤ K) : LowP B0 (wrapP PX K w') := fun X o hX => by
  unfold wrapP at hX
  split at hX
  · omega
  · exact h X o hX
theorem LowP.upd {B0 X9 : Nat} {PX : Nat → Option Obj} {ob : Obj} (h : LowP B0 PX) (hX9 : B0 ≤ X9) : LowP B0 (updP PX X9 ob) := fun X o hX => by
  unfold updP at hX
  split at hX
  · omega
  · exact h X o hX
/-- what holds between two rounds. -/
def LaidS (B0 pb n X9 : Nat) (w wr : World) (m : Nat) : Prop := ∃ PX bs R zs fo fc ao ac, Both PX B0 wr pb n bs R zs (.slice fo n fc) (.slice ao zs.length ac) ∧ PX X9 = some (.cells #[.slice fo n fc, .slice ao zs.length ac] 33 (0, 0)) ∧ ((Value.slice fo n fc).ownBlock ≠ some X9 ∧ (Value.slice ao zs.length ac).ownBlock ≠ some X9) ∧ (ZB zs ∧ zs.length ≤ m) ∧ (B0 ≤ X9 ∧ LowP B0 PX) ∧ Below B0 w wr
end Go.Proofs.YtbkclhaonbjobaaGreatDoor.Wt

namespace Go.Proofs.YtbkclhaonbjobaaGreatDoor.Wt
open Go Go.RowKit Go.Extern

attribute [local go_sem] Oper.semAt_some

theorem one_same {zs : List A4} (ho : zs.Pairwise fun a b => ¬ (a.1 = b.1 ∧ a.2.1 = b.2.1)) {a b : A4} (ha : a ∈ zs) (hb : b ∈ zs) (e : a.1 = b.1 ∧ a.2.1 = b.2.1) : a = b := by
  obtain ⟨i, hi, rfl⟩ := List.getElem_of_mem ha
  obtain ⟨j, hj, rfl⟩ := List.getElem_of_mem hb
  rcases Nat.lt_trichotomy i j with h | h | h
  · exact absurd e (List.pairwise_iff_getElem.1 ho i j hi hj h)
  · subst h; rfl
  · exact absurd ⟨e.1.symm, e.2.symm⟩ (List.pairwise_iff_getElem.1 ho j i hj hi h)
section
variable {n : Nat} {bs : List Bool} {R : Bool → Nat → Rw} {zs zs' : List A4}
/-- the reference's Put, when the call is right: rows laid beside, told the same way. -/
theorem ref_put (ht : Tied n bs R zs) (hi : OvInv n bs R) {x y wt via : Int} (hp : PutZ n bs R zs x y wt via zs') (hc : putErr n bs x y wt via = 0) (bo : Option Addr) (bl bc : Nat) (ao : Option Addr) (cap : Nat) (w : World) (hA : HasA4 w (.slice ao zs.length cap) zs) (hz : zs.length ≤ 262144) :
    Calls Tryz.prog 28 #[.agg #[.slice bo bl bc, .slice ao zs.length cap], .agg #[.int .i64 x, .int .i64 y, .int .u64 wt, .int .i64 via]] w fun e w' => Below w.heap.size w w' ∧ ∃ so sc b, e = .returned (.tuple #[.agg #[.slice bo bl bc, .slice so zs'.length sc], .bool b]) ∧ ((Value.slice so zs'.length sc = .slice ao zs.length cap ∧ zs' = zs) ∨ w'.ownsRow w.heap.size 86 4 (.slice so zs'.length sc) zs'.length (flatA4 zs')) := by
  refine (rPutA11_calls bo bl bc ao cap zs (x, y, wt, via) w hA hz).mono ?_
  rintro e w' ⟨hb, ⟨hch, rfl⟩ | ⟨hd, so, sc, rfl, hown⟩⟩
  · refine ⟨hb, ?_⟩
    rcases hp with ⟨h1, _⟩ | ⟨_, _, rfl⟩ | ⟨_, h2, rfl⟩
    · exact absurd hc h1
    · exact ⟨ao, cap, false, rfl, Or.inl ⟨rfl, rfl⟩⟩
    · exfalso
      obtain ⟨z, hzm, e1, e2, e3⟩ := hch
      have hw := ht.weight hi x y
      cases hf : findA zs x y with
      | none => exact findA_none hf hzm ⟨e1, e2⟩
      | some a =>
        rw [hf] at hw
        have h3 := h2 _ hw
        obtain ⟨ha, a1, a2⟩ := findA_some hf
        obtain rfl := one_same ht.one hzm ha ⟨e1.trans a1.symm, e2.trans a2.symm⟩
        simp only at e3 h3
        omega
  · refine ⟨hb, ?_⟩
    rcases hp with ⟨h1, _⟩ | ⟨_, ⟨k, hk, hle⟩, rfl⟩ | ⟨_, h2, rfl⟩
    · exact absurd hc h1
    · exfalso
      have hw := ht.weight hi x y
      rw [hk] at hw
      cases hf : findA zs' x y with
      | none => rw [hf] at hw; cases hw
      | some a =>
        rw [hf] at hw
        have h3 : k = a.2.2.1 := Option.some.inj hw
        obtain ⟨ha, a1, a2⟩ := findA_some hf
        have h4 := hd a ha a1 a2
        simp only at h4
        omega
    · exact ⟨so, sc, true, rfl, Or.inr hown⟩
end
end Go.Proofs.YtbkclhaonbjobaaGreatDoor.Wt

namespace Go.Proofs.YtbkclhaonbjobaaGreatDoor.Wt
open Go Go.RowKit Go.Extern

attribute [local go_sem] Oper.semAt_some

/-- both stay where nothing from their base on is written. -/
theorem both_far {PX : Nat → Option Obj} {w w' : World} {B0 B1 pb n : Nat} {bs : List Bool} {R : Bool → Nat → Rw} {zs : List A4} {av lv : Value} (h : Both PX B0 w pb n bs R zs av lv) (hl : LowP B0 PX) (hk : ∀ j, B0 ≤ j → j < w.heap.size → w'.heap[j]? = w.heap[j]?) (hB1 : B1 ≤ B0) : Both PX B1 w' pb n bs R zs av lv := by
  refine ⟨?_, h.tie, rowX_keep h.fl (fun g e => ?_), rowX_keep h.ar (fun g e => ?_), h.hf, h.ha⟩
  · obtain ⟨B, ab, sb, h0, hm, h2⟩ := h.ov
    exact ⟨B, ab, sb, Nat.le_trans hB1 h0, ⟨(hk pb (Nat.le_trans h0 hm.low.1) (lt_of_get hm.box)).trans hm.box, (hk ab (Nat.le_trans h0 hm.low.2.1) (lt_of_get hm.al)).trans hm.al, fun s => (hk (sb s) (Nat.le_trans h0 (hm.low.2.2 s)) (lt_of_get (hm.row s))).trans (hm.row s), hm.bl, hm.big, fun s u hu => rowX_keep (hm.own s u hu) (fun g e => hk g (Nat.le_trans h0 ((hm.own s u hu).lt g e).1) ((hm.own s u hu).lt g e).2), hm.low, hm.two, fun X o hX => ⟨(hk X (hl X o hX) (lt_of_get (hm.prot X o hX).1)).trans (hm.prot X o hX).1, (hm.prot X o hX).2⟩, hm.apart⟩, h2⟩
  · obtain ⟨o, ho⟩ := h.hf g e
    exact hk g (hl g o ho) (h.fl.lt g e).2
  · obtain ⟨o, ho⟩ := h.ha g e
    exact hk g (hl g o ho) (h.ar.lt g e).2
/-- what laid answers. -/
def LaidA (n : Nat) (w : World) (e : Ending) (w' : World) : Prop := ∃ pb PX bs R zs fo fc ao ac, e = .returned (.tuple #[.pointer (some ⟨pb, 0, none⟩), .agg #[.slice fo n fc, .slice ao zs.length ac], .bool true]) ∧ Both PX w.heap.size w' pb n bs R zs (.slice fo n fc) (.slice ao zs.length ac) ∧ (ZB zs ∧ zs.length ≤ 200000) ∧ Below w.heap.size w w'

set_option maxRecDepth 100000 in
set_option maxHeartbeats 16000000 in
theorem laid_yes (n : Nat) (ao : Option Addr) (cap : Nat) (xs : List (Int × Int × Int)) (w : World) (hX : HasArcs w (.slice ao xs.length cap) xs) (hxl : xs.length ≤ maxLen) (hfew : fewB (n : Int) xs 12 = true) (hg : graphErr (n : Int) xs = (0, [])) (oo : Option Addr) (oc : Nat) (ops : List Op5) (hO : HasOp5 w (.slice oo ops.length oc) ops) (h60 : ops.length ≤ 60) (hwt : ∀ q ∈ ops, 0 ≤ q.2.2.2.1) :
    Calls Tryz.prog 7 #[.agg #[.int .i64 (n : Int), .slice ao xs.length cap], .slice oo ops.length oc] w fun e w' => LaidA n w e w' := by
  obtain ⟨W0, hW0⟩ : ∃ W0, (w.alloc (.cells #[.int .i64 (n : Int), .slice ao xs.length cap] 24)).alloc (.cells #[.slice none 0 0, .slice none 0 0] 33) = W0 := ⟨_, rfl⟩
  obtain ⟨k0, k1, hB0⟩ := two_new w (.cells #[.int .i64 (n : Int), .slice ao xs.length cap] 24) (.cells #[.slice none 0 0, .slice none 0 0] 33)
  rw [hW0] at k0 k1 hB0
  have HW0 : Hid ((w.alloc (.cells #[.int .i64 (n : Int), .slice ao xs.length cap] 24)).alloc (.cells #[.slice none 0 0, .slice none 0 0] 33) = W0) := hW0
  have HG : Hid (∀ wx, Below W0.heap.size W0 wx → (wx.cell? ⟨w.heap.size, 0, none⟩ = some (.int .i64 (n : Int)) ∧ wx.cell? ⟨w.heap.size, 1, none⟩ = some (.slice ao xs.length cap) ∧ w.heap.size < wx.heap.size) ∧ wx.heap[w.heap.size + 1]? = some (.cells #[.slice none 0 0, .slice none 0 0] 33 (0, 0)) ∧ HasArcs wx (.slice ao xs.length cap) xs ∧ HasOp5 wx (.slice oo ops.length oc) ops ∧ Below w.heap.size w wx) := fun wx hwx => by
    have hgg := (hwx.block _ (lt_of_get k0)).trans k0
    have hb := hB0.trans (hwx.mono hB0.size)
    exact ⟨⟨(cell_two hgg).1, (cell_two hgg).2.1, lt_of_get hgg⟩, (hwx.block _ (lt_of_get k1)).trans k1, hX.keep hb, hO.keep hb, hb⟩
  have HFW : Hid (Calls Tryz.prog 23 #[.agg #[.int .i64 (n : Int), .slice ao xs.length cap], .int .i64 12] W0 fun e w' => e = .returned (.bool true) ∧ Below W0.heap.size W0 w') := by
    have h := few_calls (n : Int) ao cap xs 12 W0 (HG.out W0 (Below.refl _ _)).2.2.1 hxl
    rw [hfew] at h
    exact h
  have HNW : Hid (∀ wx, Below W0.heap.size W0 wx → Calls Tryz.prog 20 #[.agg #[.int .i64 (n : Int), .slice ao xs.length cap]] wx fun e w' => ∃ pb R, e = .returned (.tuple #[.pointer (some ⟨pb, 0, none⟩), .nilIface]) ∧ IsOv noP wx.heap.size w' pb n (List.replicate n true) R (n : Int) ((normA xs).length : Int) ∧ (∀ s u, u < n → (R s u).2 = (sideL s (normA xs) u, 0)) ∧ Below wx.heap.size wx w') := fun wx hwx => ov_new ao xs.length cap xs wx (HG.out wx hwx).2.2.1 hg
  have HDN : Hid (∀ wx (hwx : Below W0.heap.size W0 wx), type_of% (rDocNew11_full n ao cap xs wx (HG.out wx hwx).2.2.1 hg)) := fun wx hwx => rDocNew11_full n ao cap xs wx (HG.out wx hwx).2.2.1 hg
  have hnl : (normA xs).length ≤ xs.length := normA_len xs
  have HFB : Hid (xs.length ≤ 2000 ∧ n ≤ 12) := by
    have h := of_decide_eq_true hfew
    exact ⟨h.2.2, by have := h.2.1; omega⟩
  have HGE : Hid (graphErr (n : Int) xs = (0, []) ∧ ∀ q ∈ ops, 0 ≤ q.2.2.2.1) := ⟨hg, hwt⟩
  have HZ0 : Hid (ZB ((normA xs).map asA4)) := fun a ha => by
    obtain ⟨b, hb, rfl⟩ := List.mem_map.1 ha
    have h3 := ((good_iff _ _).1 (good_norm hg)).2 b hb
    unfold arcBad at h3
    unfold asA4
    simp only
    split at h3
    · cases h3
    · split at h3
      · cases h3
      · omega
  obtain ⟨⟨g0, g1, gs⟩, _⟩ := HG.out W0 (Below.refl _ _)
  have q4 : decide ((60 : Int) < (ops.length : Int)) = false := decide_eq_false (by omega)
  have q5 : decide (60 < ops.length) = false := decide_eq_false (by omega)
  have q6 : ¬ (60 : Int) < (ops.length : Int) := by omega
  clear hW0 hB0 k0 k1 hX hO hfew hg hwt
  unfold maxLen at hxl
  go_enter Tryz.func7, Tryz.ntmps7
  go_wp2_with fail
  rw [HW0.out]
  refine HFW.out.mono ?_
  rintro e w1 ⟨rfl, hb1⟩
  have HB1 : Hid (Below W0.heap.size W0 w1) := hb1
  clear hb1 g0 g1 gs HFW
  obtain ⟨⟨g0, g1, gs⟩, _⟩ := HG.out w1 HB1.out
  go_wp2_with fail
  clear q4 q5 q6
  refine (HNW.out w1 HB1.out).mono ?_
  rintro e w2 ⟨pb, R, rfl, hO, hR, hb2⟩
  have H2 : Hid (Below w1.heap.size w1 w2 ∧ IsOv noP w1.heap.size w2 pb n (List.replicate n true) R (n : Int) ((normA xs).length : Int) ∧ ∀ s u, u < n → (R s u).2 = (sideL s (normA xs) u, 0)) := ⟨hb2, hO, hR⟩
  have HB2 : Hid (Below W0.heap.size W0 w2) := btr HB1.out hb2
  clear hb2 hO hR g0 g1 gs
  obtain ⟨⟨g0, g1, gs⟩, _⟩ := HG.out w2 HB2.out
  go_wp2_with fail
  refine (HDN.out w2 HB2.out).mono ?_
  rintro e w6 ⟨bb, so, sc, po, pc, rfl, hrow, hfl, hbb, hb6⟩
  clear g0 g1 gs
  obtain ⟨k6, k7, kB⟩ := two_new w6 (.cells #[.slice (some ⟨bb, 0, none⟩) n n, .slice so (normA xs).length sc] 33) (.cells #[.int .i64 0, .slice po 0 pc] 44)
  obtain ⟨W8, hW8⟩ : ∃ W8, (w6.alloc (.cells #[.slice (some ⟨bb, 0, none⟩) n n, .slice so (normA xs).length sc] 33)).alloc (.cells #[.int .i64 0, .slice po 0 pc] 44) = W8 := ⟨_, rfl⟩
  rw [hW8] at k6 k7 kB
  have HW8 : Hid ((w6.alloc (.cells #[.slice (some ⟨bb, 0, none⟩) n n, .slice so (normA xs).length sc] 33)).alloc (.cells #[.int .i64 0, .slice po 0 pc] 44) = W8) := hW8
  have hb28 := btr hb6 kB
  have hs12 := H2.out.1.size
  have hs26 := hb6.size
  have hfl8 := (kB.block _ (lt_of_get hfl)).trans hfl
  have hrow8 := rowX_keep (w' := W8) hrow (fun g e => kB.block g (hrow.lt g e).2)
  have HPL : Hid (LaidS w1.heap.size pb n w6.heap.size w1 W8 (2000 + 0)) := by
    refine ⟨wrapP noP w2.heap.size W8, List.replicate n true, R, (normA xs).map asA4, some ⟨bb, 0, none⟩, n, so, sc, ?_, ?_, ⟨?_, ?_⟩, ⟨HZ0.out, by rw [List.length_map]; have := HFB.out.1; omega⟩, ⟨by omega, LowP.wrap (fun X o h => by simp [noP] at h) (by omega)⟩, btr H2.out.1 hb28⟩
    · rw [List.length_map]
      exact both_new HGE.out.1 H2.out.2.1 H2.out.2.2 hb28 hbb hfl8 hrow8
    · unfold wrapP
      rw [if_pos (by omega), List.length_map]
      exact k6
    · intro e
      have e2 : bb = w6.heap.size := by simpa [Value.ownBlock] using e
      have := lt_of_get hfl
      omega
    · intro e
      rw [List.length_map] at e
      have := (hrow.lt _ e).2
      omega
  clear hb28 hs12 hs26 hfl8 hrow8 k6 k7 kB hW8 hrow hfl hbb hb6
  go_upto_region 5 with fail
  rw [HW8.out]
  generalize w6.heap.size = X9 at *
  go_wp2_with fail
  have ho6 := h60
  go_loopw [35] (fun iv wr => ∃ k : Nat, k ≤ ops.length ∧ iv = .int .i64 (k : Nat) ∧ LaidS w1.heap.size pb n X9 w1 wr (2000 + k)) (fun iv _ => ops.length - (intOf iv).toNat)
  case atStart => exact ⟨0, Nat.zero_le _, rfl, HPL.out⟩
  case round =>
    obtain ⟨k, hk, rfl, PX, bs, Q, zs, fo, fc, eo, ec, hB, hX9, hn9, ⟨hzb, hzl⟩, ⟨hB9, hLP⟩, hbw⟩ := hrel
    by_cases hlt : k < ops.length
    · obtain ⟨a, ha⟩ : ∃ a, ops[k]? = some a := ⟨ops[k], List.getElem?_eq_getElem hlt⟩
      obtain ⟨lb, lof, rfl, ll, p0, p1, p2, p3, p4⟩ := (HG.out wr (btr HB1.out hbw)).2.2.2.1.at ha
      have HW0' : Hid (0 ≤ a.2.2.2.1) := HGE.out.2 a (List.mem_of_getElem? ha)
      obtain ⟨a0, a1, a2, a3, a4⟩ := a
      simp only at p0 p1 p2 p3 p4 HW0'
      have hX9l := lt_of_get (hB.ov.lies _ _ hX9)
      obtain ⟨Wa, hWa⟩ : ∃ Wa, wr.alloc (.cells #[.int .u8 a0, .int .i64 a1, .int .i64 a2, .int .u64 a3, .int .i64 a4] 79) = Wa := ⟨_, rfl⟩
      have HWA : Hid (wr.alloc (.cells #[.int .u8 a0, .int .i64 a1, .int .i64 a2, .int .u64 a3, .int .i64 a4] 79) = Wa) := hWa
      have bWa : Below wr.heap.size wr Wa := by rw [← hWa]; exact bel_one _ _
      have kWa : Wa.heap[wr.heap.size]? = some (.cells #[.int .u8 a0, .int .i64 a1, .int .i64 a2, .int .u64 a3, .int .i64 a4] 79) := by rw [← hWa]; exact heap_new _ _
      have hBa := hB.wrap bWa
      have hwd := (hB.ov.wrap bWa).2
      have hY9 := hwd _ _ hX9
      have hY12 : wrapP PX wr.heap.size Wa wr.heap.size = some (.cells #[.int .u8 a0, .int .i64 a1, .int .i64 a2, .int .u64 a3, .int .i64 a4] 79) := by unfold wrapP; rw [if_pos (Nat.le_refl _)]; exact kWa
      have hLY := hLP.wrap (w' := Wa) hbw.size
      obtain ⟨PY, hPY⟩ : ∃ PY, wrapP PX wr.heap.size Wa = PY := ⟨_, rfl⟩
      rw [hPY] at hBa hY9 hY12 hLY
      -- the op's box, wherever the guards hold
      have HOB : Hid (∀ wx, Lies PY wx → wx.cell? ⟨wr.heap.size, 0, none⟩ = some (.int .u8 a0) ∧ wx.cell? ⟨wr.heap.size, 1, none⟩ = some (.int .i64 a1) ∧ wx.cell? ⟨wr.heap.size, 2, none⟩ = some (.int .i64 a2) ∧ wx.cell? ⟨wr.heap.size, 3, none⟩ = some (.int .u64 a3) ∧ wx.cell? ⟨wr.heap.size, 4, none⟩ = some (.int .i64 a4) ∧ wr.heap.size < wx.heap.size) := fun wx hl => by
        have h := hl _ _ hY12
        refine ⟨?_, ?_, ?_, ?_, ?_, lt_of_get h⟩ <;> simp [World.cell?, h]
      have HMB : Hid (∀ wx, Lies PY wx → wx.cell? ⟨X9, 0, none⟩ = some (.slice fo n fc) ∧ wx.cell? ⟨X9, 1, none⟩ = some (.slice eo zs.length ec) ∧ wx.frozen? ⟨X9, 0, none⟩ = false ∧ wx.frozen? ⟨X9, 1, none⟩ = false ∧ X9 < wx.heap.size) := fun wx hl => by
        have h := hl _ _ hY9
        exact ⟨(cell_two h).1, (cell_two h).2.1, (cell_two h).2.2.1, (cell_two h).2.2.2, lt_of_get h⟩
      have HBA : Hid (Both PY w1.heap.size Wa pb n bs Q zs (.slice fo n fc) (.slice eo zs.length ec) ∧ PY X9 = some (.cells #[.slice fo n fc, .slice eo zs.length ec] 33 (0, 0)) ∧ ((Value.slice fo n fc).ownBlock ≠ some X9 ∧ (Value.slice eo zs.length ec).ownBlock ≠ some X9) ∧ (ZB zs ∧ zs.length ≤ 2000 + k) ∧ (w1.heap.size ≤ X9 ∧ LowP w1.heap.size PY) ∧ Below w1.heap.size w1 Wa) := ⟨hBa, hY9, hn9, ⟨hzb, hzl⟩, ⟨hB9, hLY⟩, hbw.trans (bWa.mono hbw.size)⟩
      have HX9L : Hid (X9 < wr.heap.size) := hX9l
      have HFW2 : Hid (xs.length ≤ 2000 ∧ n ≤ 12 ∧ k < ops.length ∧ ops.length ≤ 60) := ⟨HFB.out.1, HFB.out.2, hlt, ho6⟩
      obtain ⟨n0, n1, n2, n3, n4, ns⟩ := HOB.out Wa hBa.ov.lies
      have t1 : (k : Int) < (ops.length : Int) := by omega
      have t2 : (0 : Int) ≤ (k : Int) := by omega
      clear hB hX9 hn9 hzb hzl hB9 hbw hLP hLY hWa bWa kWa hBa hwd hY9 hY12 hPY hX9l ha
      by_cases hk1 : a0 = 1
      · subst hk1
        have HPT : Hid (type_of% (both_put HBA.out.1 (by have := HBA.out.2.2.2.1.2; have := HFW2.out; omega) a1 a2 a3 a4)) := both_put HBA.out.1 (by have := HBA.out.2.2.2.1.2; have := HFW2.out; omega) a1 a2 a3 a4
        go_upto_region 8 with fail
        rw [HWA.out]
        go_wp2_with fail
        refine HPT.out.mono ?_
        rintro e y1 ⟨r0, r1, Q', zs', rfl, hov, hti, hpz, hbP⟩
        have M1 : Hid (Mid PY w1.heap.size y1 pb n bs Q' zs' bs zs (.slice fo n fc) (.slice eo zs.length ec) ∧ PutZ n bs Q zs a1 a2 a3 a4 zs' ∧ Below w1.heap.size w1 y1) := ⟨Mid.of HBA.out.1 hov hti, hpz, HBA.out.2.2.2.2.2.trans hbP⟩
        clear hov hti hpz hbP n0 n1 n2 n3 n4 ns HPT
        obtain ⟨n0, n1, n2, n3, n4, ns⟩ := HOB.out y1 M1.out.1.ov.lies
        obtain ⟨c0, c1, c2, c3, cs⟩ := HMB.out y1 M1.out.1.ov.lies
        have HDP : Hid (type_of% (rDocPut11_calls fo fc n bs M1.out.1.bl eo zs.length ec a1 a2 a3 a4 y1 M1.out.1.hasFl (by have := HFW2.out; omega))) := rDocPut11_calls fo fc n bs M1.out.1.bl eo zs.length ec a1 a2 a3 a4 y1 M1.out.1.hasFl (by have := HFW2.out; omega)
        go_wp2_with fail
        refine HDP.out.mono ?_
        rintro e y2 ⟨rfl, hb2⟩
        obtain ⟨pe, hpe⟩ : ∃ pe, putErr n bs a1 a2 a3 a4 = pe := ⟨_, rfl⟩
        have HPE : Hid (putErr n bs a1 a2 a3 a4 = pe) := hpe
        rw [hpe]
        obtain ⟨Wf, hWf⟩ : ∃ Wf, y2.alloc (.cells #[.int .i64 pe, .slice none 0 0] 44) = Wf := ⟨_, rfl⟩
        have HWF : Hid (y2.alloc (.cells #[.int .i64 pe, .slice none 0 0] 44) = Wf) := hWf
        have bWf : Below y1.heap.size y1 Wf := by rw [← hWf]; exact btr hb2 (bel_one _ _)
        have kWf : Wf.heap[y2.heap.size]? = some (.cells #[.int .i64 pe, .slice none 0 0] 44) := by rw [← hWf]; exact heap_new _ _
        have M2 : Hid (Mid PY w1.heap.size Wf pb n bs Q' zs' bs zs (.slice fo n fc) (.slice eo zs.length ec) ∧ Below w1.heap.size w1 Wf) := ⟨M1.out.1.keep bWf, M1.out.2.2.trans (bWf.mono M1.out.1.ov.size)⟩
        have HBD : Hid (type_of% (bad_calls pe none 0 0 Wf)) := bad_calls pe none 0 0 Wf
        obtain ⟨f0, f1, _, _⟩ := cell_two kWf
        have fs := lt_of_get kWf
        clear hpe hWf bWf kWf hb2 HDP n0 n1 n2 n3 n4 ns c0 c1 c2 c3 cs
        go_wp2_with fail
        rw [HWF.out]
        refine HBD.out.mono ?_
        rintro e y3 ⟨rfl, hb3⟩
        have M3 : Hid (Mid PY w1.heap.size y3 pb n bs Q' zs' bs zs (.slice fo n fc) (.slice eo zs.length ec) ∧ Below w1.heap.size w1 y3) := ⟨M2.out.1.keep hb3, M2.out.2.trans (hb3.mono M2.out.1.ov.size)⟩
        clear hb3 f0 f1 fs HBD
        obtain ⟨n0, n1, n2, n3, n4, ns⟩ := HOB.out y3 M3.out.1.ov.lies
        obtain ⟨c0, c1, c2, c3, cs⟩ := HMB.out y3 M3.out.1.ov.lies
        obtain ⟨qb, hqb⟩ : ∃ qb, (pe != 0 || decide ((0 : Nat) < 0)) = qb := ⟨_, rfl⟩
        rw [hqb]
        by_cases hp0 : pe = 0
        · obtain rfl : qb = false := by rw [← hqb, hp0]; rfl
          have HRP : Hid (type_of% (ref_put HBA.out.1.tie HBA.out.1.ov.inv M1.out.2.1 (HPE.out.trans hp0) fo n fc eo ec y3 M3.out.1.hasA4 (by have := HBA.out.2.2.2.1.2; have := HFW2.out; omega))) := ref_put HBA.out.1.tie HBA.out.1.ov.inv M1.out.2.1 (HPE.out.trans hp0) fo n fc eo ec y3 M3.out.1.hasA4 (by have := HBA.out.2.2.2.1.2; have := HFW2.out; omega)
          clear hqb
          go_wp2_with fail
          refine HRP.out.mono ?_
          rintro e y4 ⟨hb4, so2, sc2, b2, rfl, hcl⟩
          have MC : Hid (type_of% (M3.out.1.close hb4 HBA.out.2.1 HBA.out.2.2.2.2.1.1 (Or.inl ⟨rfl, rfl⟩) hcl HBA.out.2.2.1)) := M3.out.1.close hb4 HBA.out.2.1 HBA.out.2.2.2.2.1.1 (Or.inl ⟨rfl, rfl⟩) hcl HBA.out.2.2.1
          have HL4 : Hid (Lies PY y4) := (M3.out.1.ov.keep hb4).lies
          obtain ⟨W5, hW5⟩ : ∃ W5, (y4.setCell ⟨X9, 0, none⟩ (.slice fo n fc)).setCell ⟨X9, 1, none⟩ (.slice so2 zs'.length sc2) = W5 := ⟨_, rfl⟩
          have HW5 : Hid ((y4.setCell ⟨X9, 0, none⟩ (.slice fo n fc)).setCell ⟨X9, 1, none⟩ (.slice so2 zs'.length sc2) = W5) := hW5
          have YP : Hid (LaidS w1.heap.size pb n X9 w1 W5 (2000 + (k + 1))) := by
            obtain ⟨q1, q2, q3⟩ := MC.out
            rw [hW5] at q1 q3
            have q4 := M1.out.2.1.zb HBA.out.2.2.2.1.1 HW0'.out
            exact ⟨_, _, _, _, _, _, _, _, q1, by unfold updP; rw [if_pos rfl], q2, ⟨q4.1, by have := q4.2; have := HBA.out.2.2.2.1.2; omega⟩, ⟨HBA.out.2.2.2.2.1.1, (HBA.out.2.2.2.2.1.2.wrap M3.out.2.size).upd HBA.out.2.2.2.2.1.1⟩, M3.out.2.trans q3⟩
          have z0 : W5.cell? ⟨wr.heap.size, 0, none⟩ = some (.int .u8 1) := by
            rw [← hW5]
            have hz := (HOB.out y4 HL4.out).1
            have hne : wr.heap.size ≠ X9 := by have := HX9L.out; omega
            have e1 : ((y4.setCell ⟨X9, 0, none⟩ (.slice fo n fc)).setCell ⟨X9, 1, none⟩ (.slice so2 zs'.length sc2)).heap[wr.heap.size]? = y4.heap[wr.heap.size]? := (hso _ hne).trans (hso _ hne)
            unfold World.cell? at hz ⊢
            simp only [e1]
            exact hz
          have zl : wr.heap.size < W5.heap.size := by rw [← hW5]; simpa using (HOB.out y4 HL4.out).2.2.2.2.2
          clear hb4 hcl hW5 n0 n1 n2 n3 n4 ns c0 c1 c2 c3 cs MC HRP
          obtain ⟨c0, c1, c2, c3, cs⟩ := HMB.out y4 HL4.out
          go_upto_region 13 with fail
          rw [HW5.out]
          go_wp2
          go_roundw
          case rel => exact ⟨k + 1, by omega, by go_num, YP.out⟩
          case measure => simp [intOf]; omega
        · obtain rfl : qb = true := by rw [← hqb]; simp [hp0]
          have YP : Hid (LaidS w1.heap.size pb n X9 w1 y3 (2000 + (k + 1))) := by
            have hz : zs' = zs := by
              rcases M1.out.2.1 with ⟨_, e⟩ | ⟨e, _⟩ | ⟨e, _⟩
              · exact e
              · exact absurd (HPE.out.symm.trans e) hp0
              · exact absurd (HPE.out.symm.trans e) hp0
            subst hz
            exact ⟨PY, bs, Q', _, fo, fc, eo, ec, M3.out.1.same, HBA.out.2.1, HBA.out.2.2.1, ⟨HBA.out.2.2.2.1.1, by have := HBA.out.2.2.2.1.2; omega⟩, HBA.out.2.2.2.2.1, M3.out.2⟩
          clear hqb
          go_wp2
          go_roundw
          case rel => exact ⟨k + 1, by omega, by go_num, YP.out⟩
          case measure => simp [intOf]; omega
      · by_cases hk2 : a0 = 2
        · subst hk2
          have HRM : Hid (type_of% (both_remove HBA.out.1 (by have := HBA.out.2.2.2.1.2; have := HFW2.out; omega) a1)) := both_remove HBA.out.1 (by have := HBA.out.2.2.2.1.2; have := HFW2.out; omega) a1
          go_upto_region 8 with fail
          rw [HWA.out]
          go_wp2_with fail
          refine HRM.out.mono ?_
          rintro e y1 ⟨r0, bs2, Q', zs', rfl, hov, hti, hcs, hbR⟩
          have M1 : Hid (Mid PY w1.heap.size y1 pb n bs2 Q' zs' bs zs (.slice fo n fc) (.slice eo zs.length ec) ∧ Below w1.heap.size w1 y1) := ⟨Mid.of HBA.out.1 hov hti, HBA.out.2.2.2.2.2.trans hbR⟩
          have HCS : Hid (type_of% hcs) := hcs
          clear hov hti hbR hcs n0 n1 n2 n3 n4 ns HRM
          obtain ⟨n0, n1, n2, n3, n4, ns⟩ := HOB.out y1 M1.out.1.ov.lies
          obtain ⟨c0, c1, c2, c3, cs⟩ := HMB.out y1 M1.out.1.ov.lies
          have HLV : Hid (type_of% (lives_calls fo fc n bs M1.out.1.bl eo zs.length ec a1 y1 M1.out.1.hasFl (by have := HFW2.out; omega))) := lives_calls fo fc n bs M1.out.1.bl eo zs.length ec a1 y1 M1.out.1.hasFl (by have := HFW2.out; omega)
          obtain ⟨qb, hqb⟩ : ∃ qb, aliveB n bs a1 = qb := ⟨_, rfl⟩
          rw [hqb] at HLV
          have HQB : Hid (aliveB n bs a1 = qb) := hqb
          clear hqb
          go_wp2_with fail
          refine HLV.out.mono ?_
          rintro e y3 ⟨rfl, hb3⟩
          have M3 : Hid (Mid PY w1.heap.size y3 pb n bs2 Q' zs' bs zs (.slice fo n fc) (.slice eo zs.length ec) ∧ Below w1.heap.size w1 y3) := ⟨M1.out.1.keep hb3, M1.out.2.trans (hb3.mono M1.out.1.ov.size)⟩
          clear hb3 n0 n1 n2 n3 n4 ns c0 c1 c2 c3 cs HLV
          obtain ⟨n0, n1, n2, n3, n4, ns⟩ := HOB.out y3 M3.out.1.ov.lies
          obtain ⟨c0, c1, c2, c3, cs⟩ := HMB.out y3 M3.out.1.ov.lies
          cases qb with
          | false =>
            have YP : Hid (LaidS w1.heap.size pb n X9 w1 y3 (2000 + (k + 1))) := by
              rcases HCS.out with ⟨_, rfl, rfl⟩ | ⟨e, _⟩
              · exact ⟨PY, _, Q', _, fo, fc, eo, ec, M3.out.1.same, HBA.out.2.1, HBA.out.2.2.1, ⟨HBA.out.2.2.2.1.1, by have := HBA.out.2.2.2.1.2; omega⟩, HBA.out.2.2.2.2.1, M3.out.2⟩
              · exact absurd (e.symm.trans HQB.out) (by simp)
            go_wp2
            go_roundw
            case rel => exact ⟨k + 1, by omega, by go_num, YP.out⟩
            case measure => simp [intOf]; omega
          | true =>
            obtain ⟨u, hau, hun, rfl, rfl⟩ : ∃ u : Nat, a1 = (u : Int) ∧ u < n ∧ bs2 = bs.set u false ∧ zs' = remZ zs (u : Int) := by
              rcases HCS.out with ⟨e, _⟩ | ⟨_, h⟩
              · exact absurd (e.symm.trans HQB.out) (by simp)
              · exact h
            subst hau
            have HRR : Hid (type_of% (rRemove11_calls fo n fc bs M3.out.1.bl (by have := HFW2.out; omega) eo ec zs u hun y3 M3.out.1.hasFl M3.out.1.hasA4 (by have := HBA.out.2.2.2.1.2; have := HFW2.out; omega))) := rRemove11_calls fo n fc bs M3.out.1.bl (by have := HFW2.out; omega) eo ec zs u hun y3 M3.out.1.hasFl M3.out.1.hasA4 (by have := HBA.out.2.2.2.1.2; have := HFW2.out; omega)
            go_wp2_with fail
            refine HRR.out.mono ?_
            rintro e y4 ⟨hb4, fb, fc2, so2, sc2, rfl, hof, hoa⟩
            have MC : Hid (type_of% (M3.out.1.close hb4 HBA.out.2.1 HBA.out.2.2.2.2.1.1 (Or.inr hof) (Or.inr hoa) HBA.out.2.2.1)) := M3.out.1.close hb4 HBA.out.2.1 HBA.out.2.2.2.2.1.1 (Or.inr hof) (Or.inr hoa) HBA.out.2.2.1
            have HL4 : Hid (Lies PY y4) := (M3.out.1.ov.keep hb4).lies
            obtain ⟨W5, hW5⟩ : ∃ W5, (y4.setCell ⟨X9, 0, none⟩ (.slice (some ⟨fb, 0, none⟩) n fc2)).setCell ⟨X9, 1, none⟩ (.slice so2 (remZ zs (u : Int)).length sc2) = W5 := ⟨_, rfl⟩
            have HW5 : Hid ((y4.setCell ⟨X9, 0, none⟩ (.slice (some ⟨fb, 0, none⟩) n fc2)).setCell ⟨X9, 1, none⟩ (.slice so2 (remZ zs (u : Int)).length sc2) = W5) := hW5
            have YP : Hid (LaidS w1.heap.size pb n X9 w1 W5 (2000 + (k + 1))) := by
              obtain ⟨q1, q2, q3⟩ := MC.out
              rw [hW5] at q1 q3
              exact ⟨_, _, _, _, _, _, _, _, q1, by unfold updP; rw [if_pos rfl], q2, ⟨HBA.out.2.2.2.1.1.rem _, by have := remZ_len zs (u : Int); have := HBA.out.2.2.2.1.2; omega⟩, ⟨HBA.out.2.2.2.2.1.1, (HBA.out.2.2.2.2.1.2.wrap M3.out.2.size).upd HBA.out.2.2.2.2.1.1⟩, M3.out.2.trans q3⟩
            clear hb4 hof hoa hW5 n0 n1 n2 n3 n4 ns c0 c1 c2 c3 cs MC HRR
            obtain ⟨c0, c1, c2, c3, cs⟩ := HMB.out y4 HL4.out
            go_wp2
            rw [HW5.out]
            go_roundw
            case rel => exact ⟨k + 1, by omega, by go_num, YP.out⟩
            case measure => simp [intOf]; omega
        · have m1 : (a0 == 1) = false := by simpa using hk1
          have m2 : (a0 == 2) = false := by simpa using hk2
          go_upto_region 8 with fail
          rw [HWA.out]
          have YP : Hid (LaidS w1.heap.size pb n X9 w1 Wa (2000 + (k + 1))) := ⟨PY, bs, Q, zs, fo, fc, eo, ec, HBA.out.1, HBA.out.2.1, HBA.out.2.2.1, ⟨HBA.out.2.2.2.1.1, by have := HBA.out.2.2.2.1.2; omega⟩, HBA.out.2.2.2.2⟩
          go_wp2
          go_roundw
          case rel => exact ⟨k + 1, by omega, by go_num, YP.out⟩
          case measure => simp [intOf]; omega
    · obtain rfl : k = ops.length := by omega
      have hgw := HG.out wr (btr HB1.out hbw)
      obtain ⟨c0, c1, _, _⟩ := cell_two (hB.ov.lies _ _ hX9)
      have cs := lt_of_get (hB.ov.lies _ _ hX9)
      obtain ⟨z0, z1, y0, y1⟩ := cell_two hgw.2.1
      have zl := lt_of_get hgw.2.1
      have hw1 := lt_of_get (HG.out w1 HB1.out).2.1
      have HE : Hid (∀ wz : World, (∀ j, j ≠ w.heap.size + 1 → wz.heap[j]? = wr.heap[j]?) → Below w.heap.size w wz → LaidA n w (.returned (.tuple #[.pointer (some ⟨pb, 0, none⟩), .agg #[.slice fo n fc, .slice eo zs.length ec], .bool true])) wz) := fun wz hk hb => ⟨pb, PX, bs, Q, zs, fo, fc, eo, ec, rfl, both_far hB hLP (fun j h1 h2 => hk j (by omega)) (by omega), ⟨hzb, by omega⟩, hb⟩
      have HBZ : Hid (Below w.heap.size w wr) := hgw.2.2.2.2
      clear hgw hB hX9 hn9 hzb hzl hB9 hbw hLP hw1
      go_wp2_with fail
      go_region
      all_goals
        go_wp2
        refine bodyPost_ret (v := .tuple #[.pointer (some ⟨pb, 0, none⟩), .agg #[.slice fo n fc, .slice eo zs.length ec], .bool true]) (by simp [results, Tryz.results7, go_sem, z0, z1]) rfl ?_
        refine HE.out _ (fun j hj => (hso _ hj).trans (hso _ hj)) ?_
        first | exact (HBZ.out.drew.setCell (p := ⟨w.heap.size + 1, 0, none⟩) (by simp) _).setCell (p := ⟨w.heap.size + 1, 1, none⟩) (by simp) _ | exact (HBZ.out.setCell (p := ⟨w.heap.size + 1, 0, none⟩) (by simp) _).setCell (p := ⟨w.heap.size + 1, 1, none⟩) (by simp) _
end Go.Proofs.YtbkclhaonbjobaaGreatDoor.Wt

namespace Go.Proofs.YtbkclhaonbjobaaGreatDoor.Wt
open Go Go.RowKit Go.Extern

attribute [local go_sem] Oper.semAt_some

set_option maxRecDepth 100000 in
set_option maxHeartbeats 4000000 in
theorem laid_no (N : Int) (ao : Option Addr) (cap : Nat) (xs : List (Int × Int × Int)) (w : World) (hX : HasArcs w (.slice ao xs.length cap) xs) (hxl : xs.length ≤ maxLen) (oo : Option Addr) (oc lm : Nat) (hfar : fewB N xs 12 = false ∨ 60 < lm) :
    Calls Tryz.prog 7 #[.agg #[.int .i64 N, .slice ao xs.length cap], .slice oo lm oc] w fun e w' => e = .returned (.tuple #[.pointer none, .agg #[.slice none 0 0, .slice none 0 0], .bool false]) ∧ Below w.heap.size w w' := by
  obtain ⟨W0, hW0⟩ : ∃ W0, (w.alloc (.cells #[.int .i64 N, .slice ao xs.length cap] 24)).alloc (.cells #[.slice none 0 0, .slice none 0 0] 33) = W0 := ⟨_, rfl⟩
  obtain ⟨k0, k1, hB0⟩ := two_new w (.cells #[.int .i64 N, .slice ao xs.length cap] 24) (.cells #[.slice none 0 0, .slice none 0 0] 33)
  rw [hW0] at k0 k1 hB0
  have HW0 : Hid ((w.alloc (.cells #[.int .i64 N, .slice ao xs.length cap] 24)).alloc (.cells #[.slice none 0 0, .slice none 0 0] 33) = W0) := hW0
  have HG : Hid (∀ wx, Below W0.heap.size W0 wx → wx.heap[w.heap.size + 1]? = some (.cells #[.slice none 0 0, .slice none 0 0] 33 (0, 0)) ∧ Below w.heap.size w wx) := fun wx hwx => ⟨(hwx.block _ (lt_of_get k1)).trans k1, hB0.trans (hwx.mono hB0.size)⟩
  have HFW : Hid (type_of% (few_calls N ao cap xs 12 W0 (hX.keep hB0) hxl)) := few_calls N ao cap xs 12 W0 (hX.keep hB0) hxl
  have HF : Hid (fewB N xs 12 = false ∨ 60 < lm) := hfar
  obtain ⟨g0, g1, _, _⟩ := cell_two k0
  have gs := lt_of_get k0
  generalize fewB N xs 12 = fb at *
  clear hW0 hB0 k0 k1 hX hfar
  go_enter Tryz.func7, Tryz.ntmps7
  go_wp2_with fail
  rw [HW0.out]
  refine HFW.out.mono ?_
  rintro e w1 ⟨rfl, hb1⟩
  have H1 : Hid (type_of% (HG.out w1 hb1)) := HG.out w1 hb1
  obtain ⟨z0, z1, y0, y1⟩ := cell_two H1.out.1
  have zl := lt_of_get H1.out.1
  clear hb1 g0 g1 gs HFW
  cases fb with
  | false =>
    go_wp2
    refine bodyPost_ret (v := .tuple #[.pointer none, .agg #[.slice none 0 0, .slice none 0 0], .bool false]) (by simp [results, Tryz.results7, go_sem, z0, z1]) rfl ?_
    exact ⟨rfl, (H1.out.2.setCell (p := ⟨w.heap.size + 1, 0, none⟩) (by simp) _).setCell (p := ⟨w.heap.size + 1, 1, none⟩) (by simp) _⟩
  | true =>
    have h60 : 60 < lm := HF.out.resolve_left (by simp)
    have h61 : (60 : Int) < (lm : Int) := by omega
    have h62 : decide ((60 : Int) < (lm : Int)) = true := decide_eq_true h61
    have h63 : decide (60 < lm) = true := decide_eq_true h60
    go_wp2
    refine bodyPost_ret (v := .tuple #[.pointer none, .agg #[.slice none 0 0, .slice none 0 0], .bool false]) (by simp [results, Tryz.results7, go_sem, z0, z1]) rfl ?_
    exact ⟨rfl, (H1.out.2.setCell (p := ⟨w.heap.size + 1, 0, none⟩) (by simp) _).setCell (p := ⟨w.heap.size + 1, 1, none⟩) (by simp) _⟩
end Go.Proofs.YtbkclhaonbjobaaGreatDoor.Wt

namespace Go.Proofs.YtbkclhaonbjobaaGreatDoor.Wt
open Go Go.RowKit Go.Extern

attribute [local go_sem] Oper.semAt_some

/-- numbers, told by their cells. -/
def UCell (w : World) (ao : Option Addr) (D : List Int) : Prop := ∀ (k : Nat) (x : Int), D[k]? = some x → ∃ b off, ao = some ⟨b, off, none⟩ ∧ b < w.heap.size ∧ w.cell? ⟨b, off + k, none⟩ = some (.int .u64 x)
end Go.Proofs.YtbkclhaonbjobaaGreatDoor.Wt

namespace Go.Proofs.YtbkclhaonbjobaaGreatDoor.Wt
open Go Go.RowKit Go.Extern

attribute [local go_sem] Oper.semAt_some

def iv (l : List Int) : List Value := l.map (Value.int .i64)
theorem infoJ8 : (Tryz.prog.info? 3).map (fun i => (i.zero, i.size, i.bytes)) = some (some (.int .i64 0), 1, 8) := by kernel_rfl
theorem iv_append (l r : List Int) : iv (l ++ r) = iv l ++ iv r := by simp [iv]
theorem ints_of_iown {w : World} {B : Nat} {v : Value} {l : List Int} (h : w.ownsRow B 3 1 v l.length (iv l)) : HasInts w v l := by
  rcases h.2 with ⟨e, h0⟩ | ⟨g, cap, cur, rfl, hg, hh, _⟩
  · have : l = [] := List.eq_nil_of_length_eq_zero h0
    subst this
    exact ⟨none, 0, e, fun j p hj => by simp at hj⟩
  · refine ⟨_, cap, rfl, fun j a hj => ⟨g, 0, rfl, lt_of_get hh, ?_⟩⟩
    have hlt := (List.getElem?_eq_some_iff.1 hj).1
    rw [Nat.zero_add]
    exact (h.cellAt j (by omega)).trans (by simp [iv, hj])
end Go.Proofs.YtbkclhaonbjobaaGreatDoor.Wt

namespace Go.Proofs.YtbkclhaonbjobaaGreatDoor.Wt
open Go Go.RowKit Go.Extern

/-- what is answered of one goal. -/
def goalF (n : Nat) (zs : List (Int × Int × Int)) (u : Nat) (hops se mo g : Int) : Int := farOr (runW n zs u hops se mo).vs[g.toNat]?
theorem findL_is (n : Nat) (zs : List (Int × Int × Int)) (u : Nat) (hops se mo : Int) (gs : List Int) : findL n zs u hops se mo gs = gs.map (goalF n zs u hops se mo) := rfl
theorem goalsErr_all {al : Int → Bool} : ∀ {gs : List Int} {i : Nat}, (∀ g ∈ gs, al g = true) → goalsErr al gs i = (0, [])
  | [], i, _ => rfl
  | g :: r, i, h => by
    unfold goalsErr
    rw [if_pos (h g (by simp))]
    exact goalsErr_all fun x hx => h x (by simp [hx])
theorem findErr_iff {al : Int → Bool} {u : Int} {gs : List Int} : findErr al u gs = (0, []) ↔ al u = true ∧ ∀ g ∈ gs, al g = true := by
  unfold findErr
  constructor
  · intro h
    split at h
    · rename_i hu
      exact ⟨hu, goalsErr_ok h⟩
    · simp at h
  · rintro ⟨hu, h⟩
    rw [if_pos hu]
    exact goalsErr_all h
end Go.Proofs.YtbkclhaonbjobaaGreatDoor.Wt

namespace Go.Proofs.YtbkclhaonbjobaaGreatDoor.Wt
open Go.RowKit

section
variable {n : Nat} {zs : List (Int × Int × Int)} {hb mo mo1 mo2 se : Int} {S0 S1 S2 S : FS}
/-- later only greater labels come. -/
structure Late (n : Nat) (mo : Int) (S1 S : FS) : Prop where
  opn : ∀ (v : Nat) (k : Int), v < n → S.f (v : Int) = some k → mo < k
  lab : ∀ (v : Nat) (d : Int), d ≤ mo → (S.vs[v]? = some (some d) ↔ S1.vs[v]? = some (some d))
theorem Late.relax (h : Late n mo S1 S) {v : Nat} {d hp : Int} {a : Int × Int × Int} (hd : mo < d + a.2.2) : Late n mo S1 (relax1 v d hp S a) := by
  unfold relax1
  split
  · rename_i hb
    generalize d + a.2.2 = D at *
    generalize a.2.1.toNat = x at *
    refine ⟨fun u k hu hf => ?_, fun u e he => ?_⟩
    · have hf' : upd S.f x (some D) (u : Int) = some k := hf
      unfold upd at hf'
      split at hf'
      · have := Option.some.inj hf'
        omega
      · exact h.opn u k hu hf'
    · show (S.vs.set x (some D))[u]? = _ ↔ _
      by_cases hux : u = x
      · subst hux
        have hne : ¬ S.vs[u]? = some (some e) := fun e1 => by
          unfold FS.better at hb
          rw [e1] at hb
          have := of_decide_eq_true hb
          omega
        have hlt : u < S.vs.length := by
          rcases Nat.lt_or_ge u S.vs.length with h1 | h1
          · exact h1
          · unfold FS.better at hb
            rw [List.getElem?_eq_none h1] at hb
            cases hb
        rw [List.getElem?_set_self hlt, ← h.lab u e he]
        constructor
        · intro e1
          have e2 := Option.some.inj (Option.some.inj e1)
          omega
        · intro e1
          exact absurd e1 hne
      · rw [List.getElem?_set_ne (Ne.symm hux)]
        exact h.lab u e he
  · exact h
theorem Late.fold {v : Nat} {d hp : Int} : ∀ {l : List (Int × Int × Int)} {S : FS}, Late n mo S1 S → (∀ a ∈ l, mo < d + a.2.2) → Late n mo S1 (l.foldl (relax1 v d hp) S)
  | [], _, h, _ => h
  | a :: r, _, h, ha => Late.fold (l := r) (h.relax (ha a (by simp))) fun b hb => ha b (by simp [hb])
theorem Late.pop (h : Late n mo S1 S) (v : Nat) : Late n mo S1 (S.pop v) := ⟨fun u k hu hf => by
    have hf' : upd S.f v none (u : Int) = some k := hf
    unfold upd at hf'
    split at hf'
    · cases hf'
    · exact h.opn u k hu hf', h.lab⟩
theorem Late.step (hz : Fine n zs) (h : Late n mo S1 S) {v : Nat} {k : Int} (hk : mo < k) : Late n mo S1 (S.step zs hb v k) := by
  unfold FS.step
  split
  · refine (h.pop v).fold fun a ha => ?_
    unfold arcRow at ha
    have h1 := (hz.ends a (List.mem_of_mem_take (List.mem_of_mem_drop ha))).2.2.2.2.2.1
    omega
  · exact h.pop v
theorem Steps.more (hm : mo1 ≤ mo2) : ∀ (t : Nat) (S : FS), Steps n zs hb mo1 S0 t S → Steps n zs hb mo2 S0 t S
  | 0, _, h => h
  | t + 1, _, ⟨S', v, k, h1, h2, h3, h4⟩ => ⟨S', v, k, Steps.more hm t S' h1, h2, by omega, h4⟩
theorem Steps.till {t' : Nat} : ∀ (t : Nat) (S : FS), Steps n zs hb mo S0 t S → t' < t → ∃ S', Steps n zs hb mo S0 t' S' ∧ ∃ v k, Least n S'.f v k ∧ k ≤ mo
  | 0, _, _, hlt => absurd hlt (Nat.not_lt_zero _)
  | t + 1, _, ⟨S', v, k, h1, h2, h3, h4⟩, hlt => by
    by_cases e : t' = t
    · subst e
      exact ⟨S', h1, v, k, h2, h3⟩
    · exact Steps.till t S' h1 (by omega)
theorem Late.steps (hz : Fine n zs) {t1 : Nat} (h1 : Steps n zs hb mo2 S0 t1 S1) (ho : ∀ (v : Nat) (k : Int), v < n → S1.f (v : Int) = some k → mo < k) : ∀ (t : Nat) (S : FS), t1 ≤ t → Steps n zs hb mo2 S0 t S → Late n mo S1 S
  | t, S, hle, h => by
    by_cases e : t1 = t
    · subst e
      obtain rfl := steps_det t1 S1 S h1 h
      exact ⟨ho, fun _ _ _ => Iff.rfl⟩
    · cases t with
      | zero => omega
      | succ t =>
        obtain ⟨S', v, k, g1, g2, g3, rfl⟩ := h
        have ih := Late.steps hz h1 ho t S' (by omega) g1
        exact ih.step hz (ih.opn v k g2.1 g2.2.1)
theorem most_same (hz : Fine n zs) (hm : mo1 ≤ mo2) {t1 t2 : Nat} (h1 : Steps n zs hb mo1 S0 t1 S1) (e1 : RunEnd n se mo1 t1 S1) (h2 : Steps n zs hb mo2 S0 t2 S2) (e2 : RunEnd n se mo2 t2 S2) (v : Nat) (d : Int) (hd : d ≤ mo1) : S2.vs[v]? = some (some d) ↔ S1.vs[v]? = some (some d) := by
  have h1' := Steps.more hm t1 S1 h1
  rcases Nat.lt_trichotomy t1 t2 with hlt | heq | hgt
  · obtain ⟨S', g1, x, k, g2, g3⟩ := Steps.till t2 S2 h2 hlt
    obtain rfl := steps_det t1 S' S1 g1 h1'
    have hL : ∃ x' k', Least n S'.f x' k' ∧ mo1 < k' := by
      rcases e1 with ⟨a1, a2⟩ | ⟨a1, a2⟩ | ⟨x', k', a1, a2, _⟩
      · rcases e2 with ⟨_, b2⟩ | ⟨_, b2⟩ | ⟨_, _, _, _, b2⟩ <;> omega
      · have := a1 x g2.1
        rw [g2.2.1] at this
        cases this
      · exact ⟨x', k', a1, a2⟩
    obtain ⟨x', k', a1, a2⟩ := hL
    refine (Late.steps (mo := mo1) hz h1' (fun u j hu hj => ?_) t2 S2 (by omega) h2).lab v d hd
    have := a1.2.2 u j hu hj
    unfold ltT at this
    simp only at this
    omega
  · subst heq
    obtain rfl := steps_det t1 S1 S2 h1' h2
    exact Iff.rfl
  · obtain ⟨S', g1, x, k, g2, g3⟩ := Steps.till t1 S1 h1 hgt
    obtain rfl := steps_det t2 S' S2 (Steps.more hm t2 S' g1) h2
    exfalso
    rcases e2 with ⟨a1, a2⟩ | ⟨a1, a2⟩ | ⟨x', k', a1, a2, _⟩
    · rcases e1 with ⟨_, b2⟩ | ⟨_, b2⟩ | ⟨_, _, _, _, b2⟩ <;> omega
    · have := a1 x g2.1
      rw [g2.2.1] at this
      cases this
    · have := a1.2.2 x k g2.1 g2.2.1
      unfold ltT at this
      simp only at this
      omega
/-- what lies nearer than both bounds is told alike. -/
theorem goalF_most {u : Nat} (hz : Fine n zs) (hu : u < n) (hm : mo1 ≤ mo2) {d : Int} (hd : d ≤ mo1) (hf : d < 18446744073709551615) (hops g : Int) : d < goalF n zs u hops se mo1 g ↔ d < goalF n zs u hops se mo2 g := by
  obtain ⟨t1, h1, e1⟩ := runW_end hz hu hops se mo1
  obtain ⟨t2, h2, e2⟩ := runW_end hz hu hops se mo2
  have key := most_same hz hm h1 e1 h2 e2 g.toNat
  unfold goalF
  generalize (runW n zs u hops se mo1).vs[g.toNat]? = o1 at *
  generalize (runW n zs u hops se mo2).vs[g.toNat]? = o2 at *
  have k1 : ∀ e, o1 = some (some e) → e ≤ d → farOr o2 = e := fun e he hle => by
    rw [(key e (by omega)).2 he]
    rfl
  have k2 : ∀ e, o2 = some (some e) → e ≤ d → farOr o1 = e := fun e he hle => by
    rw [(key e (by omega)).1 he]
    rfl
  constructor
  · intro h
    rcases o2 with _ | _ | e
    · exact hf
    · exact hf
    · rcases Int.lt_or_le d e with h3 | h3
      · exact h3
      · have := k2 e rfl h3
        omega
  · intro h
    rcases o1 with _ | _ | e
    · exact hf
    · exact hf
    · rcases Int.lt_or_le d e with h3 | h3
      · exact h3
      · have := k1 e rfl h3
        omega
end
end Go.Proofs.YtbkclhaonbjobaaGreatDoor.Wt
