/- viaductref12.Rows: what its walk leans on. viaductref12.Rows, walked. viaductref12.Find, walked. viaductref12.DocFind, walked. -/
import Derived.Test.YtbkclhaonbjobaaGreatDoorWtB
import Derived.Test.YtbkclhaonbjobaaGreatDoorWu3
import Derived.Test.YtbkclhaonbjobaaGreatDoorQgX
import Derived.Deep.RegionHeldLaw
import Derived.Test.YtbkclhaonbjobaaGreatDoorQfX
namespace Go.Proofs.YtbkclhaonbjobaaGreatDoor.Wt
open Go Go.RowKit Go.Extern

attribute [local go_sem] Oper.semAt_some

/-- a row's cells. -/
def flatZ (l : List (Int × Int × Int)) : List Value := l.flatMap fun a => [.int .i64 a.2.1, .int .u64 a.2.2]
theorem flatZ_len (l : List (Int × Int × Int)) : (flatZ l).length = l.length * 2 := by
  unfold flatZ
  induction l with
  | nil => rfl
  | cons a r ih => simp only [List.flatMap_cons, List.length_append, ih, List.length_cons, List.length_nil]; omega
theorem flatZ_append (l m : List (Int × Int × Int)) : flatZ (l ++ m) = flatZ l ++ flatZ m := by simp [flatZ]
theorem flatZ_one (xs : List (Int × Int × Int)) : ∀ u ∈ flatZ xs, u.oneCell' = true := fun u hu => by
  unfold flatZ at hu
  obtain ⟨a, _, h⟩ := List.mem_flatMap.1 hu
  simp at h
  rcases h with rfl | rfl <;> rfl
theorem flatZ_get : ∀ (l : List (Int × Int × Int)) (j : Nat) (a : Int × Int × Int), l[j]? = some a → (flatZ l)[j * 2]? = some (.int .i64 a.2.1) ∧ (flatZ l)[j * 2 + 1]? = some (.int .u64 a.2.2)
  | [], j, a, h => by simp at h
  | b :: r, 0, a, h => by simp at h; subst h; exact ⟨rfl, rfl⟩
  | b :: r, j + 1, a, h => by
    obtain ⟨h1, h2⟩ := flatZ_get r j a (by simpa using h)
    refine ⟨?_, ?_⟩
    · rw [show (j + 1) * 2 = j * 2 + 1 + 1 by omega]
      exact h1
    · rw [show (j + 1) * 2 + 1 = j * 2 + 1 + 1 + 1 by omega]
      exact h2
theorem infoZ : (Tryz.prog.info? 205).map (fun i => (i.zero, i.size, i.bytes)) = some (some (.agg #[.int .i64 0, .int .u64 0]), 2, 16) := by kernel_rfl
theorem infoS : (Tryz.prog.info? 203).map (fun i => (i.zero, i.size, i.bytes)) = some (some (.slice none 0 0), 1, 24) := by kernel_rfl
/-- append of one half onto a row, as one step of a region that draws. -/
theorem step_append_z {w : World} {ops : Array Oper} {o : Oper} {a : Act} {K : Act → World → Prop} {Q : Exit → Act → World → Prop} {E : Prop} (hg : o.guard = none) (s x : Operand)
    (ho : o.op = .call { callee := .builtin .append, args := #[s, x], argTypes := #[203, 203] }) (B : Nat) (v : Value) (L : List (Int × Int × Int)) (hs : a.eval s = v) (hown : w.ownsRow B 205 2 v L.length (flatZ L)) (hB : B ≤ w.heap.size)
    (ad : Addr) (z d y : Int) (hx : a.eval x = .slice (some ad) 1 1) (h0 : w.cell? ad = some (.int .i64 d)) (h1 : w.cell? (ad.add 1) = some (.int .u64 y)) (hlen : L.length + 1 ≤ 8796093022208)
    (h : ∀ v' w', w'.ownsRow B 205 2 v' (L ++ [(z, d, y)]).length (flatZ (L ++ [(z, d, y)])) → w.grownBy w' v.ownBlock → K (a.put o.dst v') w') :
    if Region.wanted o (yielded ops a.tmps) = true then Oper.wp Tryz.prog o a w K Q else E := by
  have hw : Region.wanted o (yielded ops a.tmps) = true := by simp [Region.wanted, hg]
  rw [if_pos hw]
  obtain ⟨i0, hi, hz0, hz1, hz2⟩ : ∃ i, Tryz.prog.info? 205 = some i ∧ i.zero = some (.agg #[.int .i64 0, .int .u64 0]) ∧ i.size = 2 ∧ i.bytes = 16 := by
    have h := infoZ
    cases hi : Tryz.prog.info? 205 with
    | none => rw [hi] at h; cases h
    | some i => rw [hi] at h; simp at h; exact ⟨i, rfl, h.1, h.2.1, h.2.2⟩
  obtain ⟨v', w', hr, h2, h3, _, h5⟩ := run_append_own_at (P := Tryz.prog) w B 203 o.type 205 i0 _ 2 16 Tryz.underlying203 hi hz0 hz1 hz2 rfl (by decide) v L.length (flatZ L) hown ad 1 1 (flatZ [(z, d, y)]) (flatZ_len _) (fun j u hj => by
    rcases j with _ | _ | j
    · simp [flatZ] at hj; subst hj; simpa [Addr.add] using h0
    · simp [flatZ] at hj; subst hj; exact h1
    · simp [flatZ] at hj) (flatZ_one _) (by unfold maxLen; omega) (by omega) (by omega)
  unfold Oper.wp execOp
  simp only [ho, resolve, invoke, builtin, Sem.run_bind, Sem.run_pure, Result.andThen_ok, List.map_toArray, List.map_cons, List.map_nil, hs, hx, hr]
  exact h v' w' (by rw [List.length_append, flatZ_append]; exact h2) h3
/-- the table of rows. -/
def VRow (w : World) (rb : Nat) (vs : List Value) : Prop := w.heap[rb]? = some (.cells vs.toArray 203)
theorem VRow.at {w : World} {rb : Nat} {vs : List Value} (h : VRow w rb vs) {k : Nat} {x : Value} (hk : vs[k]? = some x) : w.cell? ⟨rb, k, none⟩ = some x ∧ rb < w.heap.size ∧ w.frozen? ⟨rb, k, none⟩ = false := by
  refine ⟨?_, lt_of_get h, ?_⟩
  · simp [World.cell?, show w.heap[rb]? = _ from h, hk]
  · simp [World.frozen?, show w.heap[rb]? = _ from h]
theorem VRow.set {w : World} {rb : Nat} {vs : List Value} (h : VRow w rb vs) (k : Nat) (x : Value) : VRow (w.setCell ⟨rb, k, none⟩ x) rb (vs.set k x) := by
  unfold VRow
  rw [Go.heap_setCell_same _ _ k _ _ _ h]
  congr 2
  rw [List.setIfInBounds_toArray]
theorem VRow.made {w : World} {b n : Nat} (h : w.heap[b]? = some (.cells (madeCells #[.slice none 0 0] n) 203)) : VRow w b (List.replicate n (.slice none 0 0)) := by
  unfold VRow
  rw [h, made_list]
/-- halves in a block that isn't the table. -/
def HalfX (w : World) (rb : Nat) (o : Option Addr) (l : List (Int × Int × Int)) : Prop := ∀ (j : Nat) (a : Int × Int × Int), l[j]? = some a → ∃ b off, o = some ⟨b, off, none⟩ ∧ b ≠ rb ∧ b < w.heap.size ∧ w.cell? ⟨b, off + j * 2, none⟩ = some (.int .i64 a.2.1) ∧ w.cell? ⟨b, off + j * 2 + 1, none⟩ = some (.int .u64 a.2.2)
/-- nothing but the table and what is new has changed. -/
def FarX (rb : Nat) (w w' : World) : Prop := w.heap.size ≤ w'.heap.size ∧ ∀ g, g < w.heap.size → g ≠ rb → w'.heap[g]? = w.heap[g]?
theorem FarX.refl (rb : Nat) (w : World) : FarX rb w w := ⟨Nat.le_refl _, fun _ _ _ => rfl⟩
theorem FarX.trans {rb : Nat} {w w' w2 : World} (h : FarX rb w w') (k : FarX rb w' w2) : FarX rb w w2 := ⟨Nat.le_trans h.1 k.1, fun g hg hn => (k.2 g (Nat.lt_of_lt_of_le hg h.1) hn).trans (h.2 g hg hn)⟩
theorem FarX.of {rb : Nat} {w w' : World} (h : Below w.heap.size w w') : FarX rb w w' := ⟨h.size, fun g hg _ => h.block g hg⟩
theorem FarX.cell {rb : Nat} {w w' : World} (h : FarX rb w w') {b i : Nat} (hb : b < w.heap.size) (hn : b ≠ rb) : w'.cell? ⟨b, i, none⟩ = w.cell? ⟨b, i, none⟩ := by
  unfold World.cell?
  simp only [h.2 b hb hn]
theorem HalfX.keep {w w' : World} {rb : Nat} {o : Option Addr} {l : List (Int × Int × Int)} (h : HalfX w rb o l) (hb : FarX rb w w') : HalfX w' rb o l := fun j a ha => by
  obtain ⟨b, off, e, hn, hl, h0, h1⟩ := h j a ha
  exact ⟨b, off, e, hn, Nat.lt_of_lt_of_le hl hb.1, (hb.cell hl hn).trans h0, (hb.cell hl hn).trans h1⟩
theorem halfX_of {w : World} {B rb : Nat} {o : Option Addr} {c : Nat} {l : List (Int × Int × Int)} (h : w.ownsRow B 205 2 (.slice o l.length c) l.length (flatZ l)) (hB : rb < B) : HalfX w rb o l := fun j a ha => by
  rcases h.2 with ⟨e, h0⟩ | ⟨g, cap, cur, e, hg, hh, _⟩
  · have hl := (List.getElem?_eq_some_iff.1 ha).1
    omega
  · cases e
    have hlt := (List.getElem?_eq_some_iff.1 ha).1
    obtain ⟨g0, g1⟩ := flatZ_get l j a ha
    refine ⟨g, 0, rfl, by omega, lt_of_get hh, ?_, ?_⟩
    · rw [Nat.zero_add]; exact (h.cellAt (j * 2) (by omega)).trans g0
    · rw [Nat.zero_add]; exact (h.cellAt (j * 2 + 1) (by omega)).trans g1
theorem rowZ_slice {w : World} {base m : Nat} {xs : List Value} {v : Value} (h : w.ownsRow base 205 2 v m xs) : ∃ ao cap, v = .slice ao m cap := by
  rcases h.2 with ⟨h, h'⟩ | ⟨g, cap, cur, h, _⟩
  · exact ⟨none, 0, by rw [h']; exact h⟩
  · exact ⟨_, cap, h⟩
/-- the rows below v are made. -/
structure RowsTill (w0 wr : World) (rb n : Nat) (ov : Nat → List (Int × Int × Int)) (skip : Int) (v : Nat) (vs : List Value) : Prop where
  row : VRow wr rb vs
  len : vs.length = n
  done : ∀ u, u < v → u < n → ∃ o c, vs[u]? = some (.slice o (rowZ ov skip u).length c) ∧ HalfX wr rb o (rowZ ov skip u)
  todo : ∀ u, v ≤ u → u < n → vs[u]? = some (.slice none 0 0)
  below : Below w0.heap.size w0 wr
  low : w0.heap.size ≤ rb
theorem RowsTill.keep {w0 wr wx : World} {rb n v : Nat} {ov : Nat → List (Int × Int × Int)} {skip : Int} {vs : List Value} (h : RowsTill w0 wr rb n ov skip v vs) (hb : Below wr.heap.size wr wx) : RowsTill w0 wx rb n ov skip v vs :=
  ⟨(hb.block _ (lt_of_get h.row)).trans h.row, h.len, fun u h1 h2 => by
    obtain ⟨o, c, e, hx⟩ := h.done u h1 h2
    exact ⟨o, c, e, hx.keep (FarX.of hb)⟩, h.todo, h.below.trans (hb.mono h.below.size), h.low⟩
/-- a row under way. -/
structure RowAt (w0 wK wr : World) (rb : Nat) (vs : List Value) (v : Nat) (sv : Value) (l : List (Int × Int × Int)) : Prop where
  row : VRow wr rb (vs.set v sv)
  own : wr.ownsRow wK.heap.size 205 2 sv l.length (flatZ l)
  far : FarX rb wK wr
  below : Below w0.heap.size w0 wr
  lt : rb < wK.heap.size
  low : w0.heap.size ≤ rb
section
variable {w0 wK wr W w2 : World} {rb v : Nat} {vs : List Value} {sv v' : Value} {l : List (Int × Int × Int)}
theorem RowAt.keep (h : RowAt w0 wK wr rb vs v sv l) (hb : Below wr.heap.size wr W) : RowAt w0 wK W rb vs v sv l :=
  ⟨(hb.block _ (lt_of_get h.row)).trans h.row, rowX_keep h.own (fun g e => hb.block g (h.own.lt g e).2), h.far.trans (FarX.of hb), h.below.trans (hb.mono h.below.size), h.lt, h.low⟩
theorem RowAt.app (h : RowAt w0 wK wr rb vs v sv l) (hv : v < vs.length) (hb : Below wr.heap.size wr W) {a : Int × Int × Int} (hr : w2.ownsRow wK.heap.size 205 2 v' (l ++ [a]).length (flatZ (l ++ [a]))) (hg : W.grownBy w2 sv.ownBlock) :
    RowAt w0 wK (w2.setCell ⟨rb, v, none⟩ v') rb vs v v' (l ++ [a]) ∧ w2.cell? ⟨rb, v, none⟩ = some sv ∧ w2.frozen? ⟨rb, v, none⟩ = false ∧ rb < w2.heap.size := by
  have hW := h.keep hb
  have hlt := lt_of_get hW.row
  have hne : sv.ownBlock ≠ some rb := fun e => by have := (hW.own.lt rb e).1; have := h.lt; omega
  have h2 : VRow w2 rb (vs.set v sv) := (hg.block rb hlt (fun e => hne e.symm)).trans hW.row
  have hk : ∀ k, k ≠ rb → (w2.setCell ⟨rb, v, none⟩ v').heap[k]? = w2.heap[k]? := fun k hk => heap_setCell_other _ _ _ _ hk
  obtain ⟨c1, c2, c3⟩ := h2.at (k := v) (x := sv) (by simp [hv])
  have hrow := h2.set v v'
  rw [List.set_set] at hrow
  have hf2 : FarX rb wK w2 := ⟨Nat.le_trans hW.far.1 hg.size, fun g hg1 hg2 => (hg.block g (Nat.lt_of_lt_of_le hg1 hW.far.1) (fun e => by have := (hW.own.lt g e.symm).1; omega)).trans (hW.far.2 g hg1 hg2)⟩
  have hb2 : Below w0.heap.size w0 w2 := ⟨hg.os.trans hW.below.os, hg.tape.trans hW.below.tape, hg.output.trans hW.below.output, Nat.le_trans hW.below.size hg.size, fun k hk => (hg.block k (Nat.lt_of_lt_of_le hk hW.below.size) (fun e => by have := (hW.own.lt k e.symm).1; have := h.lt; have := h.low; omega)).trans (hW.below.block k hk)⟩
  refine ⟨⟨hrow, rowX_keep hr (fun g e => hk g (fun e' => by have := (hr.lt g e).1; have := h.lt; omega)), ⟨by simpa using hf2.1, fun g hg1 hg2 => (hk g hg2).trans (hf2.2 g hg1 hg2)⟩, hb2.setCell (p := ⟨rb, v, none⟩) h.low _, h.lt, h.low⟩, c1, c3, c2⟩
end
end Go.Proofs.YtbkclhaonbjobaaGreatDoor.Wt

namespace Go.Proofs.YtbkclhaonbjobaaGreatDoor.Wt
open Go Go.RowKit Go.Extern

attribute [local go_sem] Oper.semAt_some

/-- Out of the reference's overlay, from a world on. -/
def RefOut (w : World) (av lv : Value) (n : Nat) (ov : Nat → List (Int × Int × Int)) : Prop := ∀ wx, Below w.heap.size w wx → ∀ v : Nat, v < n → Calls Tryz.prog 39 #[.agg #[av, lv], .int .i64 (v : Int)] wx fun e w' => ∃ so sc, e = .returned (.slice so (ov v).length sc) ∧ HasHs w' (.slice so (ov v).length sc) (ov v) ∧ Below wx.heap.size wx w'
/-- the rows in memory. -/
def RowsV (w : World) (rb n : Nat) (ov : Nat → List (Int × Int × Int)) (skip : Int) : Prop := rb < w.heap.size ∧ ∀ u, u < n → ∃ o c, w.cell? ⟨rb, u, none⟩ = some (.slice o (rowZ ov skip u).length c) ∧ HalfX w rb o (rowZ ov skip u)
/-- so much of a row. -/
def partZ (ov : Nat → List (Int × Int × Int)) (skip : Int) (v k : Nat) : List (Int × Int × Int) := (((ov v).take k).filter fun a => a.1 != skip).map fun a => ((v : Int), a.1, a.2.1)
theorem partZ_all (ov : Nat → List (Int × Int × Int)) (skip : Int) (v : Nat) : partZ ov skip v (ov v).length = rowZ ov skip v := by
  unfold partZ rowZ
  rw [List.take_length]
theorem partZ_len (ov : Nat → List (Int × Int × Int)) (skip : Int) (v k : Nat) : (partZ ov skip v k).length ≤ (ov v).length := by
  unfold partZ
  rw [List.length_map]
  exact Nat.le_trans (List.length_filter_le _ _) (by rw [List.length_take]; omega)
theorem partZ_next {ov : Nat → List (Int × Int × Int)} {skip : Int} {v k : Nat} {a : Int × Int × Int} (h : (ov v)[k]? = some a) : partZ ov skip v (k + 1) = if a.1 = skip then partZ ov skip v k else partZ ov skip v k ++ [((v : Int), a.1, a.2.1)] := by
  unfold partZ
  rw [List.take_add_one, h]
  simp only [Option.toList_some, List.filter_append, List.map_append]
  by_cases e : a.1 = skip
  · rw [if_pos e]
    simp [e]
  · rw [if_neg e]
    simp [e]
theorem RowsTill.slices {w0 wr : World} {rb n v : Nat} {ov : Nat → List (Int × Int × Int)} {skip : Int} {vs : List Value} (h : RowsTill w0 wr rb n ov skip v vs) {j : Nat} {x : Value} (hj : vs[j]? = some x) : ∃ o m c, x = .slice o m c := by
  have hl := (List.getElem?_eq_some_iff.1 hj).1
  rw [h.len] at hl
  by_cases hv : j < v
  · obtain ⟨o, c, e, _⟩ := h.done j hv hl
    rw [e] at hj
    exact ⟨_, _, _, (Option.some.inj hj).symm⟩
  · rw [h.todo j (by omega) hl] at hj
    exact ⟨_, _, _, (Option.some.inj hj).symm⟩
/-- the halves that are read lie apart of the table. -/
theorem RowsTill.apart {w0 wr : World} {rb n v : Nat} {ov : Nat → List (Int × Int × Int)} {skip : Int} {vs : List Value} (h : RowsTill w0 wr rb n ov skip v vs) {b i : Nat} {x : Int} (hc : wr.cell? ⟨b, i, none⟩ = some (.int .i64 x)) : b ≠ rb := fun e => by
  subst e
  have hr : wr.heap[b]? = some (.cells vs.toArray 203) := h.row
  have h1 : vs[i]? = some (.int .i64 x) := by simpa [World.cell?, hr] using hc
  obtain ⟨o, m, c, e⟩ := h.slices h1
  cases e
theorem RowsTill.begin {w0 wr : World} {rb n v : Nat} {ov : Nat → List (Int × Int × Int)} {skip : Int} {vs : List Value} (h : RowsTill w0 wr rb n ov skip v vs) (hv : v < n) : RowAt w0 wr wr rb vs v (.slice none 0 0) (partZ ov skip v 0) := by
  have h1 := h.todo v (Nat.le_refl _) hv
  refine ⟨?_, ?_, FarX.refl _ _, h.below, lt_of_get h.row, h.low⟩
  · have hset : vs.set v (.slice none 0 0) = vs := by
      apply List.ext_getElem?
      intro i
      rw [List.getElem?_set]
      split
      · rename_i e
        subst e
        rw [if_pos (by rw [h.len]; exact hv), h1]
      · rfl
    rw [hset]
    exact h.row
  · exact World.ownsRow_nil _ _ _ _
theorem RowsTill.next {w0 wK wr : World} {rb n v : Nat} {ov : Nat → List (Int × Int × Int)} {skip : Int} {vs : List Value} {sv : Value} (h : RowsTill w0 wK rb n ov skip v vs) (hv : v < n) (k : RowAt w0 wK wr rb vs v sv (rowZ ov skip v)) : RowsTill w0 wr rb n ov skip (v + 1) (vs.set v sv) := by
  refine ⟨k.row, by rw [List.length_set]; exact h.len, fun u h1 h2 => ?_, fun u h1 h2 => ?_, k.below, k.low⟩
  · rw [List.getElem?_set]
    by_cases e : v = u
    · subst e
      rw [if_pos rfl, if_pos (by rw [h.len]; exact hv)]
      obtain ⟨o, c, rfl⟩ := rowZ_slice k.own
      exact ⟨o, c, rfl, halfX_of k.own k.lt⟩
    · rw [if_neg e]
      obtain ⟨o, c, e1, e2⟩ := h.done u (by omega) h2
      exact ⟨o, c, e1, e2.keep k.far⟩
  · rw [List.getElem?_set, if_neg (by omega)]
    exact h.todo u (by omega) h2
theorem RowsTill.all {w0 wr : World} {rb n : Nat} {ov : Nat → List (Int × Int × Int)} {skip : Int} {vs : List Value} (h : RowsTill w0 wr rb n ov skip n vs) : RowsV wr rb n ov skip := ⟨lt_of_get h.row, fun u hu => by
  obtain ⟨o, c, e, hx⟩ := h.done u hu hu
  exact ⟨o, c, (h.row.at e).1, hx⟩⟩
theorem half_box {w : World} {X : Nat} {a b c : Value} {T : TypeId} (h : w.heap[X]? = some (.cells #[a, b, c] T)) : w.cell? ⟨X, 0, none⟩ = some a ∧ w.cell? ⟨X, 1, none⟩ = some b ∧ w.cell? ⟨X, 2, none⟩ = some c ∧ X < w.heap.size := ⟨by simp [World.cell?, h], by simp [World.cell?, h], by simp [World.cell?, h], lt_of_get h⟩

set_option maxRecDepth 100000 in
set_option maxHeartbeats 8000000 in
theorem rRows_calls {w : World} (fo ao : Option Addr) (fc m ac n : Nat) (ov : Nat → List (Int × Int × Int)) (skip : Int) (hO : RefOut w (.slice fo n fc) (.slice ao m ac) n ov) (hn : n ≤ 65536) (hov : ∀ v, v < n → (ov v).length ≤ 65536) :
    Calls Tryz.prog 87 #[.agg #[.slice fo n fc, .slice ao m ac], .int .i64 skip] w fun e w' => ∃ rb, e = .returned (.slice (some ⟨rb, 0, none⟩) n n) ∧ w.heap.size ≤ rb ∧ RowsV w' rb n ov skip ∧ Below w.heap.size w w' := by
  obtain ⟨W0, hW0⟩ : ∃ W0, w.alloc (.cells #[.slice fo n fc, .slice ao m ac] 33) = W0 := ⟨_, rfl⟩
  have HW0 : Hid (w.alloc (.cells #[.slice fo n fc, .slice ao m ac] 33) = W0) := hW0
  have hB0 : Below w.heap.size w W0 := by rw [← hW0]; exact (Below.refl _ w).alloc (Nat.le_refl _) _
  have hbx : W0.heap[w.heap.size]? = some (.cells #[.slice fo n fc, .slice ao m ac] 33) := by rw [← hW0]; exact heap_new _ _
  have HK : Hid (∀ wx, Below W0.heap.size W0 wx → (wx.cell? ⟨w.heap.size, 0, none⟩ = some (.slice fo n fc) ∧ wx.cell? ⟨w.heap.size, 1, none⟩ = some (.slice ao m ac) ∧ w.heap.size < wx.heap.size) ∧ Below w.heap.size w wx) := fun wx hx => by
    have hg := (hx.block _ (lt_of_get hbx)).trans hbx
    exact ⟨⟨(cell_two hg).1, (cell_two hg).2.1, lt_of_get hg⟩, hB0.trans (hx.mono hB0.size)⟩
  obtain ⟨⟨c0, c1, cs⟩, _⟩ := HK.out W0 (Below.refl _ _)
  have HO : Hid (RefOut w (.slice fo n fc) (.slice ao m ac) n ov ∧ n ≤ 65536 ∧ ∀ v, v < n → (ov v).length ≤ 65536) := ⟨hO, hn, hov⟩
  have hmk := fun wx => run_make_row' (P := Tryz.prog) 170 203 (.slice none 0 0) 24 Tryz.underlying170 infoS rfl .i64 .i64 n (by omega) (by omega) wx
  obtain ⟨W1, hW1⟩ : ∃ W1, W0.alloc (.cells (madeCells #[.slice none 0 0] n) 203) = W1 := ⟨_, rfl⟩
  have HW1 : Hid (W0.alloc (.cells (madeCells #[.slice none 0 0] n) 203) = W1) := hW1
  have H1 : Hid (RowsTill W0 W1 W0.heap.size n ov skip 0 (List.replicate n (.slice none 0 0))) := ⟨VRow.made (by rw [← hW1]; exact heap_new _ _), by simp, fun u h1 => by omega, fun u _ h2 => by simp [h2], by rw [← hW1]; exact (Below.refl _ _).alloc (Nat.le_refl _) _, Nat.le_refl _⟩
  have HS : Hid (W0.heap.size = w.heap.size + 1) := by show _ = _; rw [← hW0]; simp
  clear hW0 hB0 hbx hO hn hov hW1
  go_enter Tryz.func87, Tryz.ntmps87
  go_wp2_with fail
  rw [HW0.out]
  go_wp2_with fail
  rw [HW1.out]
  clear c0 c1 cs hmk
  go_loopw [15] (fun iv wr => ∃ (v : Nat) (vs : List Value), v ≤ n ∧ iv = .int .i64 (v : Nat) ∧ RowsTill W0 wr W0.heap.size n ov skip v vs) (fun iv _ => n - (intOf iv).toNat)
  case atStart => exact ⟨0, _, Nat.zero_le _, rfl, H1.out⟩
  case round =>
    obtain ⟨v, vs, hvn, rfl, hT⟩ := hrel
    have HT : Hid (RowsTill W0 wr W0.heap.size n ov skip v vs) := hT
    have hn5 : n ≤ 65536 := HO.out.2.1
    by_cases hlt : v < n
    · obtain ⟨⟨c0, c1, cs⟩, hbw⟩ := HK.out wr hT.below
      have HOU : Hid (type_of% (HO.out.1 wr hbw v hlt)) := HO.out.1 wr hbw v hlt
      have i1 : (v : Int) < (n : Int) := by omega
      have i2 : (0 : Int) ≤ (v : Int) := by omega
      clear hT hbw
      go_wp2_with fail
      refine HOU.out.mono ?_
      rintro e wK ⟨so, sc, rfl, hHs, hbK⟩
      have HTK : Hid (RowsTill W0 wK W0.heap.size n ov skip v vs ∧ HasHs wK (.slice so (ov v).length sc) (ov v)) := ⟨HT.out.keep hbK, hHs⟩
      clear hHs hbK c0 c1 cs HOU
      go_wp2_with fail
      go_loopw [22] (fun iv wx => ∃ (k : Nat) (sv : Value), k ≤ (ov v).length ∧ iv = .int .i64 (k : Nat) ∧ RowAt W0 wK wx W0.heap.size vs v sv (partZ ov skip v k)) (fun iv _ => (ov v).length - (intOf iv).toNat)
      case atStart => exact ⟨0, _, Nat.zero_le _, rfl, HTK.out.1.begin hlt⟩
      case round =>
        obtain ⟨k, sv, hkl, rfl, hA⟩ := hrel
        have HA : Hid (RowAt W0 wK wr W0.heap.size vs v sv (partZ ov skip v k)) := hA
        have hl5 : (ov v).length ≤ 65536 := HO.out.2.2 v hlt
        have hvl : v < vs.length := by rw [HTK.out.1.len]; exact hlt
        by_cases hk : k < (ov v).length
        · obtain ⟨a, ha⟩ : ∃ a, (ov v)[k]? = some a := ⟨(ov v)[k], List.getElem?_eq_getElem hk⟩
          obtain ⟨b, off, rfl, bl, e0, e1, e2⟩ := HTK.out.2.at ha
          have hne := HTK.out.1.apart e0
          have g0 := (hA.far.cell bl hne).trans e0
          have g1 := (hA.far.cell bl hne).trans e1
          have g2 := (hA.far.cell bl hne).trans e2
          have gl : b < wr.heap.size := Nat.lt_of_lt_of_le bl hA.far.1
          have HN : Hid (type_of% (partZ_next (skip := skip) ha)) := partZ_next (skip := skip) ha
          have HPL : Hid ((partZ ov skip v k).length ≤ 65536) := Nat.le_trans (partZ_len ov skip v k) (HO.out.2.2 v hlt)
          obtain ⟨x, wt, via⟩ := a
          simp only at g0 g1 g2
          obtain ⟨Wx, hWx⟩ : ∃ Wx, wr.alloc (.cells #[.int .i64 x, .int .u64 wt, .int .i64 via] 108) = Wx := ⟨_, rfl⟩
          have HWX : Hid (wr.alloc (.cells #[.int .i64 x, .int .u64 wt, .int .i64 via] 108) = Wx) := hWx
          have hbx : Below wr.heap.size wr Wx := by rw [← hWx]; exact (Below.refl _ _).alloc (Nat.le_refl _) _
          obtain ⟨d0, d1, d2, dl⟩ := half_box (show Wx.heap[wr.heap.size]? = some (.cells #[.int .i64 x, .int .u64 wt, .int .i64 via] 108) by rw [← hWx]; exact heap_new _ _)
          have HAX : Hid (RowAt W0 wK Wx W0.heap.size vs v sv (partZ ov skip v k)) := hA.keep hbx
          have j1 : (k : Int) < ((ov v).length : Int) := by omega
          have j2 : (0 : Int) ≤ (k : Int) := by omega
          clear hA e0 e1 e2 hne bl ha hWx hbx
          by_cases hsk : x = skip
          · subst hsk
            go_wp2_with fail
            rw [HWX.out]
            go_wp2
            go_roundw
            case rel => exact ⟨k + 1, sv, by omega, by go_num, by rw [HN.out, if_pos rfl]; exact HAX.out⟩
            case measure => simp [intOf]; omega
          · have hsk' : (x == skip) = false := by simpa using hsk
            have hsk2 : (x != skip) = true := by simpa using hsk
            obtain ⟨po, pc, rfl⟩ := rowZ_slice HAX.out.own
            obtain ⟨r0, r1, r2⟩ := HAX.out.row.at (k := v) (x := .slice po (partZ ov skip v k).length pc) (by simp [hvl])
            have hq0 : (Wx.drew.alloc (.cells #[.int .i64 x, .int .u64 wt] 205)).heap[Wx.heap.size]? = some (.cells #[.int .i64 x, .int .u64 wt] 205) := heap_new _ _
            have hbW : Below Wx.heap.size Wx (Wx.drew.alloc (.cells #[.int .i64 x, .int .u64 wt] 205)) := (Below.refl _ Wx).drew.alloc (Nat.le_refl _) _
            have hKW : wK.heap.size ≤ (Wx.drew.alloc (.cells #[.int .i64 x, .int .u64 wt] 205)).heap.size := Nat.le_trans HAX.out.far.1 hbW.size
            have HX : Hid (((Wx.drew.alloc (.cells #[.int .i64 x, .int .u64 wt] 205)).ownsRow wK.heap.size 205 2 (.slice po (partZ ov skip v k).length pc) (partZ ov skip v k).length (flatZ (partZ ov skip v k)) ∧ wK.heap.size ≤ (Wx.drew.alloc (.cells #[.int .i64 x, .int .u64 wt] 205)).heap.size) ∧ (Wx.drew.alloc (.cells #[.int .i64 x, .int .u64 wt] 205)).cell? ⟨Wx.heap.size, 0, none⟩ = some (.int .i64 x) ∧ (Wx.drew.alloc (.cells #[.int .i64 x, .int .u64 wt] 205)).cell? (Addr.add ⟨Wx.heap.size, 0, none⟩ 1) = some (.int .u64 wt)) := ⟨⟨(HAX.out.keep hbW).own, hKW⟩, cell_ofW hq0 rfl, cell_ofW (o := 1) hq0 rfl⟩
            have HFI : Hid (∀ v' w2, w2.ownsRow wK.heap.size 205 2 v' (partZ ov skip v k ++ [((v : Int), x, wt)]).length (flatZ (partZ ov skip v k ++ [((v : Int), x, wt)])) → (Wx.drew.alloc (.cells #[.int .i64 x, .int .u64 wt] 205)).grownBy w2 (Value.slice po (partZ ov skip v k).length pc).ownBlock →
                RowAt W0 wK (w2.setCell ⟨W0.heap.size, v, none⟩ v') W0.heap.size vs v v' (partZ ov skip v k ++ [((v : Int), x, wt)]) ∧ w2.cell? ⟨W0.heap.size, v, none⟩ = some (Value.slice po (partZ ov skip v k).length pc) ∧ w2.frozen? ⟨W0.heap.size, v, none⟩ = false ∧ W0.heap.size < w2.heap.size) := fun v' w2 o1 gr => HAX.out.app hvl hbW o1 gr
            have hS0 := HS.out
            clear hq0 hbW hKW
            go_wp2_with fail
            rw [HWX.out]
            rw [hS0] at HFI r0 r1 r2
            go_region_law (first | (refine step_append_z rfl _ _ rfl wK.heap.size (.slice po (partZ ov skip v k).length pc) (partZ ov skip v k) rfl HX.out.1.1 HX.out.1.2 ⟨Wx.heap.size, 0, none⟩ (v : Int) x wt rfl HX.out.2.1 HX.out.2.2 (by have := HPL.out; omega) ?_; intro v3 w3 hown3 hgr3; obtain ⟨x1, x2, x3, x4⟩ := HFI.out v3 w3 hown3 hgr3; obtain ⟨po2, pc2, hv3⟩ := rowZ_slice hown3; subst hv3; have Y3 : Hid (type_of% x1) := x1; clear hown3 hgr3 x1))
            all_goals
              go_wp2
              go_roundw
              case rel =>
                have h1 := Y3.out
                rw [← hS0] at h1
                simp only [List.length_append, List.length_cons, List.length_nil, Nat.zero_add] at h1
                rw [← hS0]
                exact ⟨k + 1, _, by omega, by go_num, by rw [HN.out, if_neg hsk]; exact h1⟩
              case measure => simp [intOf]; omega
        · obtain rfl : k = (ov v).length := by omega
          have HAZ : Hid (RowsTill W0 wr W0.heap.size n ov skip (v + 1) (vs.set v sv)) := by
            have h1 := HA.out
            rw [partZ_all] at h1
            exact HTK.out.1.next hlt h1
          clear hA
          go_wp2
          go_roundw
          case rel => exact ⟨v + 1, _, by omega, by go_num, HAZ.out⟩
          case measure => simp [intOf]; omega
    · obtain rfl : v = n := by omega
      have HZ : Hid (RowsV wr W0.heap.size v ov skip ∧ Below w.heap.size w wr) := ⟨hT.all, (HK.out wr hT.below).2⟩
      clear hT
      go_wp2
      go_ret
      exact ⟨w.heap.size + 1, rfl, by omega, by rw [← HS.out]; exact HZ.out.1, HZ.out.2⟩
end Go.Proofs.YtbkclhaonbjobaaGreatDoor.Wt

namespace Go.Proofs.YtbkclhaonbjobaaGreatDoor.Wt
open Go Go.RowKit Go.Extern

attribute [local go_sem] Oper.semAt_some

/-- append of one number onto a row of the call's own. -/
theorem wpList_append_u {w : World} {ops : Array Oper} {rest : List Oper} {o : Oper} {a : Act} {Q : Exit → Act → World → Prop} (hgd : o.guard = none) (s x : Operand)
    (ho : o.op = .call { callee := .builtin .append, args := #[s, x], argTypes := #[130, 130] })
    (base : Nat) (v : Value) (L : List Int) (hs : a.eval s = v) (hown : w.ownsRow base 66 1 v L.length (L.map (Value.int .u64)))
    (ad : Addr) (y : Int) (hx : a.eval x = .slice (some ad) 1 1) (hl : w.cell? ad = some (.int .u64 y))
    (hlen : L.length + 1 ≤ 1048576) (hbase : base ≤ w.heap.size)
    (h : ∀ v' w', w'.ownsRow base 66 1 v' (L ++ [y]).length ((L ++ [y]).map (Value.int .u64)) → w.grownBy w' v.ownBlock → wpList Tryz.prog ops Q rest (a.put o.dst v') w') : wpList Tryz.prog ops Q (o :: rest) a w := by
  obtain ⟨i0, hi, hz0, hz1, hz2⟩ : ∃ i, Tryz.prog.info? 66 = some i ∧ i.zero = some (.int .u64 0) ∧ i.size = 1 ∧ i.bytes = 8 := by
    have h := infoU
    cases hi : Tryz.prog.info? 66 with
    | none => rw [hi] at h; cases h
    | some i => rw [hi] at h; simp at h; exact ⟨i, rfl, h.1, h.2.1, h.2.2⟩
  refine wpList_append_own _ hgd s x 130 ho base 66 i0 _ 1 8 Tryz.underlying130 hi hz0 hz1 hz2 rfl (by decide) v L.length (L.map (Value.int .u64)) hs hown ad 1 1 [.int .u64 y] hx rfl (fun j u hj => ?_) (fun u hu => ?_) (by unfold maxLen; omega) (by omega) hbase ?_
  · rcases j with _ | j
    · simp at hj; subst hj; simpa [Addr.add] using hl
    · simp at hj
  · simp at hu; subst hu; rfl
  · intro v' w' h1 h2 _
    exact h v' w' (by rw [List.length_append, List.map_append]; exact h1) h2
theorem below_grownX {w0 w w' : World} {base base' e size n : Nat} {xs : List Value} {v : Value} (hb : Below base w0 w) (h : w.ownsRow base' e size v n xs) (hg : w.grownBy w' v.ownBlock) (hs : base ≤ w.heap.size) (hbb : base ≤ base') : Below base w0 w' :=
  hb.trans ⟨hg.os, hg.tape, hg.output, hg.size, fun j hj => hg.block j (Nat.lt_of_lt_of_le hj hs) (fun e => by have := (h.lt j e.symm).1; omega)⟩
theorem rowU_slice {w : World} {base m : Nat} {xs : List Value} {v : Value} (h : w.ownsRow base 66 1 v m xs) : ∃ ao cap, v = .slice ao m cap := by
  rcases h.2 with ⟨h, h'⟩ | ⟨g, cap, cur, h, _⟩
  · exact ⟨none, 0, by rw [h']; exact h⟩
  · exact ⟨_, cap, h⟩
theorem RefOut.up {w w' : World} {av lv : Value} {n : Nat} {ov : Nat → List (Int × Int × Int)} (h : RefOut w av lv n ov) (hb : Below w.heap.size w w') : RefOut w' av lv n ov := fun wx hx => h wx (hb.trans (hx.mono hb.size))
theorem RowsV.rowsIn {w : World} {rb n : Nat} {ov : Nat → List (Int × Int × Int)} {skip : Int} (h : RowsV w rb n ov skip) : RowsIn w rb n (rowsZ ov skip n) := ⟨h.1, fun v hv => by
  obtain ⟨o, c, e, hx⟩ := h.2 v hv
  have hr : arcsOf (rowsZ ov skip n) v = rowZ ov skip v := rowsZ_row hv
  rw [hr]
  exact ⟨o, c, e, fun j a ha => by
    obtain ⟨b, off, e1, _, e2, e3⟩ := hx j a ha
    exact ⟨b, off, e1, e2, e3⟩⟩⟩
/-- the answers so far. -/
structure UAt (w2 wr : World) (sv : Value) (L : List Int) : Prop where
  own : wr.ownsRow w2.heap.size 66 1 sv L.length (L.map (Value.int .u64))
  old : Below w2.heap.size w2 wr
theorem UAt.app {w2 wr W wz : World} {sv v' : Value} {L : List Int} (h : UAt w2 wr sv L) (hb : Below wr.heap.size wr W) {y : Int} (hr : wz.ownsRow w2.heap.size 66 1 v' (L ++ [y]).length ((L ++ [y]).map (Value.int .u64))) (hg : W.grownBy wz sv.ownBlock) : UAt w2 wz v' (L ++ [y]) :=
  ⟨hr, below_grownX (h.old.trans (hb.mono h.old.size)) (rowX_keep (w' := W) h.own (fun g e => hb.block g (h.own.lt g e).2)) hg (Nat.le_trans h.old.size hb.size) (Nat.le_refl _)⟩

set_option maxRecDepth 100000 in
set_option maxHeartbeats 8000000 in
theorem rFind_calls {w : World} (fo ao : Option Addr) (fc m ac n : Nat) (ov : Nat → List (Int × Int × Int)) (skip : Int) (hO : RefOut w (.slice fo n fc) (.slice ao m ac) n ov) (hW : RowsW n ov) (hn : n ≤ 512) (u : Nat) (hu : u < n) (go : Option Addr) (gc : Nat) (gs : List Int) (hg : HasInts w (.slice go gs.length gc) gs) (hgs : ∀ g ∈ gs, ∃ v : Nat, g = (v : Int) ∧ v < n) (hl : gs.length ≤ 1000) (mo hops se : Int) :
    Calls Tryz.prog 57 #[.agg #[.slice fo n fc, .slice ao m ac], .int .i64 (u : Int), .int .i64 skip, .slice go gs.length gc, .int .u64 mo, .int .i64 hops, .int .i64 se] w fun e w' => ∃ v, e = .returned v ∧ w'.ownsRow w.heap.size 66 1 v gs.length ((findL n (rowsZ ov skip n) u hops se mo gs).map (Value.int .u64)) ∧ Below w.heap.size w w' := by
  obtain ⟨W0, hW0⟩ : ∃ W0, w.alloc (.cells #[.slice fo n fc, .slice ao m ac] 33) = W0 := ⟨_, rfl⟩
  have HW0 : Hid (w.alloc (.cells #[.slice fo n fc, .slice ao m ac] 33) = W0) := hW0
  have hB0 : Below w.heap.size w W0 := by rw [← hW0]; exact (Below.refl _ w).alloc (Nat.le_refl _) _
  have hbx : W0.heap[w.heap.size]? = some (.cells #[.slice fo n fc, .slice ao m ac] 33) := by rw [← hW0]; exact heap_new _ _
  obtain ⟨c0, c1, _, _⟩ := cell_two hbx
  have cs := lt_of_get hbx
  obtain ⟨zs, hzs⟩ : ∃ zs, rowsZ ov skip n = zs := ⟨_, rfl⟩
  have HZF : Hid (Fine n zs) := by rw [← hzs]; exact rowsZ_fine hW hn
  have HG : Hid (HasInts w (.slice go gs.length gc) gs ∧ (∀ g ∈ gs, ∃ v : Nat, g = (v : Int) ∧ v < n) ∧ gs.length ≤ 1000 ∧ Below w.heap.size w W0) := ⟨hg, hgs, hl, hB0⟩
  have HRW : Hid (Calls Tryz.prog 87 #[.agg #[.slice fo n fc, .slice ao m ac], .int .i64 skip] W0 fun e w' => ∃ rb, e = .returned (.slice (some ⟨rb, 0, none⟩) n n) ∧ W0.heap.size ≤ rb ∧ RowsIn w' rb n zs ∧ Below W0.heap.size W0 w') := by
    refine (rRows_calls fo ao fc m ac n ov skip (hO.up hB0) (by omega) (fun v hv => by have := rise_few (hW.rise v hv) (fun a ha => ⟨(hW.ends v hv a ha).1, (hW.ends v hv a ha).2.1⟩); omega)).mono ?_
    rintro e w' ⟨rb, rfl, h1, h2, h3⟩
    have h4 := h2.rowsIn
    rw [hzs] at h4
    exact ⟨rb, rfl, h1, h4, h3⟩
  have HRU : Hid (∀ wx rb, RowsIn wx rb n zs → Calls Tryz.prog 86 #[.slice (some ⟨rb, 0, none⟩) n n, .int .i64 u, .int .i64 hops, .int .i64 se, .int .u64 mo] wx fun e w' => RunAns n zs hops se mo u FS.nil wx e w') := fun wx rb h => rRun_calls n zs rb n u hops se mo wx HZF.out hu h FS.nil
  have HEN : Hid (type_of% (runW_end HZF.out hu hops se mo)) := runW_end HZF.out hu hops se mo
  have hn6 : n ≤ 65536 := by omega
  clear hW0 hB0 hbx hO hW hg hgs
  go_enter Tryz.func57, Tryz.ntmps57
  go_wp2_with fail
  rw [HW0.out]
  refine HRW.out.mono ?_
  rintro e w1 ⟨rb, rfl, hrb, hRI, hb1⟩
  have H1 : Hid (RowsIn w1 rb n zs ∧ Below w.heap.size w w1) := ⟨hRI, HG.out.2.2.2.trans (hb1.mono HG.out.2.2.2.size)⟩
  clear hRI hb1 hrb c0 c1 cs HRW
  go_wp2_with fail
  refine (HRU.out w1 rb H1.out.1).mono ?_
  rintro e w2 ⟨db, kb, hb, sb, D, K, Ha, Se, t, S, rfl, ⟨hst, hend, hRR⟩, ⟨hD, hK, hH, hS⟩, hb2⟩
  obtain ⟨t', r1, r2⟩ := HEN.out
  obtain ⟨_, rfl⟩ := run_unique hst hend r1 r2
  obtain ⟨W2, hW2⟩ : ∃ W2, w2.alloc (.cells #[.slice (some ⟨db, 0, none⟩) n n, .slice (some ⟨kb, 0, none⟩) n n, .slice (some ⟨hb, 0, none⟩) n n, .slice (some ⟨sb, 0, none⟩) n n] 168) = W2 := ⟨_, rfl⟩
  have HW2 : Hid (w2.alloc (.cells #[.slice (some ⟨db, 0, none⟩) n n, .slice (some ⟨kb, 0, none⟩) n n, .slice (some ⟨hb, 0, none⟩) n n, .slice (some ⟨sb, 0, none⟩) n n] 168) = W2) := hW2
  have b2 : Below w2.heap.size w2 W2 := by rw [← hW2]; exact (Below.refl _ _).alloc (Nat.le_refl _) _
  have k2 : W2.heap[w2.heap.size]? = some (.cells #[.slice (some ⟨db, 0, none⟩) n n, .slice (some ⟨kb, 0, none⟩) n n, .slice (some ⟨hb, 0, none⟩) n n, .slice (some ⟨sb, 0, none⟩) n n] 168) := by rw [← hW2]; exact heap_new _ _
  have H2 : Hid (RR n (runW n zs u hops se mo) D K Ha Se ∧ U64s W2 db D ∧ Bools W2 hb Ha ∧ Below w.heap.size w W2) := ⟨hRR, (b2.block _ (lt_of_get hD)).trans hD, (b2.block _ (lt_of_get hH)).trans hH, (H1.out.2.trans (hb2.mono H1.out.2.size)).trans (b2.mono (H1.out.2.trans (hb2.mono H1.out.2.size)).size)⟩
  have HBX : Hid (∀ wx, Below W2.heap.size W2 wx → wx.cell? ⟨w2.heap.size, 0, none⟩ = some (.slice (some ⟨db, 0, none⟩) n n) ∧ wx.cell? ⟨w2.heap.size, 2, none⟩ = some (.slice (some ⟨hb, 0, none⟩) n n) ∧ w2.heap.size < wx.heap.size) := fun wx hx => by
    have h := (hx.block _ (lt_of_get k2)).trans k2
    exact ⟨(box4 h).1, (box4 h).2.2.1, lt_of_get h⟩
  have HAT : Hid (∀ g ∈ gs, ∃ v : Nat, g = (v : Int) ∧ v < n ∧ ((∃ d, farOr (runW n zs u hops se mo).vs[g.toNat]? = d ∧ D[v]? = some d ∧ Ha[v]? = some true) ∨ (farOr (runW n zs u hops se mo).vs[g.toNat]? = 18446744073709551615 ∧ Ha[v]? = some false))) := fun g hgm => by
    obtain ⟨v, rfl, hv⟩ := HG.out.2.1 g hgm
    refine ⟨v, rfl, hv, ?_⟩
    rw [Int.toNat_natCast]
    obtain ⟨o, ho⟩ : ∃ o, (runW n zs u hops se mo).vs[v]? = some o := ⟨(runW n zs u hops se mo).vs[v]'(by rw [hRR.lv]; exact hv), List.getElem?_eq_getElem _⟩
    rw [ho]
    cases o with
    | none => exact Or.inr ⟨rfl, (hRR.none' v ho).1⟩
    | some d => exact Or.inl ⟨d, rfl, (hRR.some' v d ho).1, (hRR.some' v d ho).2.2.1⟩
  clear hst hend hRR hD hK hH hS hb2 r1 r2 hW2 b2 k2 H1 HRU HEN
  go_wp2_with fail
  rw [HW2.out]
  obtain ⟨AN, hAN⟩ : ∃ AN, findL n zs u hops se mo gs = AN := ⟨_, rfl⟩
  have HAN : Hid (AN.length = gs.length ∧ ∀ (k : Nat) (g : Int), gs[k]? = some g → AN[k]? = some (farOr (runW n zs u hops se mo).vs[g.toNat]?)) := by
    rw [← hAN]
    exact ⟨by simp [findL], fun k g h => by simp [findL, h]⟩
  have HE : Hid (findL n (rowsZ ov skip n) u hops se mo gs = AN) := by show _ = _; rw [hzs]; exact hAN
  clear hAN
  have hgl := HG.out.2.2.1
  go_loopw [29, 16] (fun iv lv wr => ∃ (k : Nat) (po : Option Addr) (pc : Nat) (L : List Int), k ≤ gs.length ∧ iv = .int .i64 (k : Nat) ∧ lv = .slice po L.length pc ∧ L = AN.take k ∧ UAt W2 wr (.slice po L.length pc) L) (fun iv _ _ => gs.length - (intOf iv).toNat)
  case atStart => exact ⟨0, none, 0, [], Nat.zero_le _, rfl, rfl, rfl, World.ownsRow_nil _ _ _ _, Below.refl _ _⟩
  case round =>
    obtain ⟨k, po, pc, L, hk, rfl, rfl, hL, hU⟩ := hrel
    have HU : Hid (UAt W2 wr (.slice po L.length pc) L) := hU
    have hLl : L.length = k := by rw [hL, List.length_take, HAN.out.1]; omega
    by_cases hlt : k < gs.length
    · obtain ⟨g, hgk⟩ : ∃ g, gs[k]? = some g := ⟨gs[k], List.getElem?_eq_getElem hlt⟩
      obtain ⟨v, rfl, hv, hans⟩ := HAT.out g (List.mem_of_getElem? hgk)
      have han := HAN.out.2 k _ hgk
      obtain ⟨b, off, rfl, bl, e0⟩ := (HG.out.1.keep (H2.out.2.2.2.trans (hU.old.mono H2.out.2.2.2.size))).at hgk
      obtain ⟨c0, c2, cs⟩ := HBX.out wr hU.old
      have i1 : (k : Int) < (gs.length : Int) := by omega
      have i2 : (0 : Int) ≤ (k : Int) := by omega
      have j1 : (v : Int) < (n : Int) := by omega
      have j2 : (0 : Int) ≤ (v : Int) := by omega
      rcases hans with ⟨d, hd, hDv, hHv⟩ | ⟨hd, hHv⟩
      · rw [hd] at han
        have HN : Hid (L ++ [d] = AN.take (k + 1)) := by show _ = _; rw [List.take_add_one, han, hL]; rfl
        obtain ⟨q0, ql, _⟩ := H2.out.2.1.at hDv
        obtain ⟨p0, pl, _⟩ := H2.out.2.2.1.at hHv
        have q1 := (hU.old.cell (p := ⟨db, v, none⟩) ql).trans q0
        have p1 := (hU.old.cell (p := ⟨hb, v, none⟩) pl).trans p0
        have ql2 := Nat.lt_of_lt_of_le ql hU.old.size
        have pl2 := Nat.lt_of_lt_of_le pl hU.old.size
        clear hU hL han hd hDv hHv q0 p0 ql pl hgk
        obtain ⟨Wb, hWb⟩ : ∃ Wb, wr.alloc (.cells #[.int .u64 d] 66) = Wb := ⟨_, rfl⟩
        have HWB : Hid (wr.alloc (.cells #[.int .u64 d] 66) = Wb) := hWb
        have hbb : Below wr.heap.size wr Wb := by rw [← hWb]; exact (Below.refl _ _).alloc (Nat.le_refl _) _
        have HX : Hid ((Wb.ownsRow W2.heap.size 66 1 (.slice po L.length pc) L.length (L.map (Value.int .u64)) ∧ Wb.cell? ⟨wr.heap.size, 0, none⟩ = some (.int .u64 d)) ∧ W2.heap.size ≤ Wb.heap.size ∧ Below wr.heap.size wr Wb) := ⟨⟨rowX_keep (w' := Wb) HU.out.own (fun g e => hbb.block g (HU.out.own.lt g e).2), by rw [← hWb]; exact cell_ofW (heap_new _ _) rfl⟩, Nat.le_trans HU.out.old.size hbb.size, hbb⟩
        clear hWb hbb
        go_upto_region 7 with fail
        go_wp2_with (at_builtin; rw [HWB.out]; refine wpList_append_u rfl _ _ rfl W2.heap.size (.slice po L.length pc) L rfl HX.out.1.1 ⟨wr.heap.size, 0, none⟩ d rfl HX.out.1.2 (by omega) HX.out.2.1 ?_; intro v' w' hown hgr; obtain ⟨ro, rc, hv⟩ := rowU_slice hown; subst hv; have Y : Hid (type_of% (HU.out.app HX.out.2.2 hown hgr)) := HU.out.app HX.out.2.2 hown hgr; clear hown hgr)
        go_roundw
        case rel => exact ⟨k + 1, ro, rc, L ++ [d], by omega, by go_num, by simp [hLl], HN.out, Y.out⟩
        case measure => simp [intOf]; omega
      · rw [hd] at han
        have HN : Hid (L ++ [18446744073709551615] = AN.take (k + 1)) := by show _ = _; rw [List.take_add_one, han, hL]; rfl
        obtain ⟨p0, pl, _⟩ := H2.out.2.2.1.at hHv
        have p1 := (hU.old.cell (p := ⟨hb, v, none⟩) pl).trans p0
        have pl2 := Nat.lt_of_lt_of_le pl hU.old.size
        clear hU hL han hd hHv p0 pl hgk
        obtain ⟨Wb, hWb⟩ : ∃ Wb, wr.alloc (.cells #[.int .u64 18446744073709551615] 66) = Wb := ⟨_, rfl⟩
        have HWB : Hid (wr.alloc (.cells #[.int .u64 18446744073709551615] 66) = Wb) := hWb
        have hbb : Below wr.heap.size wr Wb := by rw [← hWb]; exact (Below.refl _ _).alloc (Nat.le_refl _) _
        have HX : Hid ((Wb.ownsRow W2.heap.size 66 1 (.slice po L.length pc) L.length (L.map (Value.int .u64)) ∧ Wb.cell? ⟨wr.heap.size, 0, none⟩ = some (.int .u64 18446744073709551615)) ∧ W2.heap.size ≤ Wb.heap.size ∧ Below wr.heap.size wr Wb) := ⟨⟨rowX_keep (w' := Wb) HU.out.own (fun g e => hbb.block g (HU.out.own.lt g e).2), by rw [← hWb]; exact cell_ofW (heap_new _ _) rfl⟩, Nat.le_trans HU.out.old.size hbb.size, hbb⟩
        clear hWb hbb
        go_upto_region 8 with fail
        go_wp2_with (at_builtin; rw [HWB.out]; refine wpList_append_u rfl _ _ rfl W2.heap.size (.slice po L.length pc) L rfl HX.out.1.1 ⟨wr.heap.size, 0, none⟩ 18446744073709551615 rfl HX.out.1.2 (by omega) HX.out.2.1 ?_; intro v' w' hown hgr; obtain ⟨ro, rc, hv⟩ := rowU_slice hown; subst hv; have Y : Hid (type_of% (HU.out.app HX.out.2.2 hown hgr)) := HU.out.app HX.out.2.2 hown hgr; clear hown hgr)
        go_roundw
        case rel => exact ⟨k + 1, ro, rc, L ++ [18446744073709551615], by omega, by go_num, by simp [hLl], HN.out, Y.out⟩
        case measure => simp [intOf]; omega
    · obtain rfl : k = gs.length := by omega
      have HZ : Hid (wr.ownsRow w.heap.size 66 1 (.slice po L.length pc) gs.length (AN.map (Value.int .u64)) ∧ Below w.heap.size w wr) := by
        have h1 := hU.own
        have h2 : L = AN := by rw [hL, ← HAN.out.1, List.take_length]
        rw [h2] at h1 ⊢
        rw [HAN.out.1] at h1 ⊢
        exact ⟨rowX_base h1 H2.out.2.2.2.size, H2.out.2.2.2.trans (hU.old.mono H2.out.2.2.2.size)⟩
      clear hU hL
      go_wp2
      go_ret
      rw [HE.out]
      exact ⟨_, rfl, HZ.out⟩
end Go.Proofs.YtbkclhaonbjobaaGreatDoor.Wt

namespace Go.Proofs.YtbkclhaonbjobaaGreatDoor.Wt
open Go Go.RowKit Go.Extern

attribute [local go_sem] Oper.semAt_some

/-- Lives of the reference's overlay, from a world on. -/
def RefLives (w : World) (av lv : Value) (al : Int → Bool) : Prop := ∀ wx, Below w.heap.size w wx → ∀ x : Int, Calls Tryz.prog 17 #[.agg #[av, lv], .int .i64 x] wx fun e w' => e = .returned (.bool (al x)) ∧ Below wx.heap.size wx w'
/-- what DocFind answers. -/
def DfA (n : Nat) (zs : List (Int × Int × Int)) (er : Int × List (Int × Int)) (u : Nat) (hops se mo : Int) (gs : List Int) (w : World) (e : Ending) (w' : World) : Prop := ∃ v lo lc, e = .returned (.tuple #[v, .agg #[.int .i64 er.1, .slice lo er.2.length lc]]) ∧ HasPlaces w' (.slice lo er.2.length lc) er.2 ∧ Below w.heap.size w w' ∧ ((er = (0, []) ∧ w'.ownsRow w.heap.size 66 1 v gs.length ((findL n zs u hops se mo gs).map (Value.int .u64))) ∨ (er ≠ (0, []) ∧ v = .slice none 0 0))
end Go.Proofs.YtbkclhaonbjobaaGreatDoor.Wt
