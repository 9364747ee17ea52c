/- what writing into rows leaves alone. -/
import Derived.Test.YtkehpmbnbknpfaaHgA
import Derived.Maps.AppendAt
namespace Go.Proofs.Ytkehpmbnbknpfaa.Hi
open Go.RowKit Go.Extern Go.Shelf

attribute [local go_sem] Oper.semAt_some

/-- rows keep their kind and their number of cells. -/
def Shp (w w' : World) : Prop := ∀ (k : Nat) (cur : Array Value) (T : TypeId) (fr : Nat × Nat), w.heap[k]? = some (.cells cur T fr) → ∃ cur', w'.heap[k]? = some (.cells cur' T fr) ∧ cur'.size = cur.size
theorem Shp.refl (w : World) : Shp w w := fun _ cur _ _ h => ⟨cur, h, rfl⟩
theorem Shp.trans {a b c : World} (h : Shp a b) (k : Shp b c) : Shp a c := fun i cur T fr hi => by
  obtain ⟨c1, h1, s1⟩ := h i cur T fr hi
  obtain ⟨c2, h2, s2⟩ := k i c1 T fr h1
  exact ⟨c2, h2, s2.trans s1⟩
theorem Shp.below {w w' : World} (h : Below w.heap.size w w') : Shp w w' := fun k cur _ _ hk => ⟨cur, (h.block k (some_lt hk)).trans hk, rfl⟩
theorem Shp.store (w : World) (b o : Nat) (v : Value) : Shp w (w.setCell ⟨b, o, none⟩ v) := fun k cur T fr hk => by
  by_cases e : k = b
  · subst e
    refine ⟨cur.setIfInBounds o v, ?_, by simp⟩
    simp [World.setCell, Array.getElem?_modify, hk]
  · exact ⟨cur, (Below.heap_setCell _ _ _ _ (by exact e)).trans hk, rfl⟩
theorem Shp.wr {w w' : World} (h : Shp w w') {b o : Nat} (hc : (∃ v, w.cell? ⟨b, o, none⟩ = some v) ∧ w.frozen? ⟨b, o, none⟩ = false) : (∃ v, w'.cell? ⟨b, o, none⟩ = some v) ∧ w'.frozen? ⟨b, o, none⟩ = false := by
  obtain ⟨⟨v, hv⟩, hf⟩ := hc
  cases hh : w.heap[b]? with
  | none => simp [World.cell?, hh] at hv
  | some ob =>
    cases ob with
    | cells cur T fr =>
      obtain ⟨cur', h1, h2⟩ := h b cur T fr hh
      simp [World.cell?, hh] at hv
      have hlt : o < cur'.size := by have := (Array.getElem?_eq_some_iff.1 hv).1; omega
      refine ⟨⟨cur'[o], by simp [World.cell?, h1, hlt]⟩, ?_⟩
      simp only [World.frozen?, hh] at hf
      simp only [World.frozen?, h1]
      exact hf
    | _ => simp [World.cell?, hh] at hv
theorem Wr.shp {w w' : World} {lo : Option Addr} {m : Nat} (g : Wr w lo m) (h : Shp w w') : Wr w' lo m := fun b o e j hj => h.wr (g b o e j hj)
/-- a row that is one's own, whatever it holds. -/
def Loose (w : World) (T : TypeId) (z : Nat) (v : Value) (n : Nat) : Prop := ∃ xs, w.ownsRow 0 T z v n xs
theorem Loose.shp {w w' : World} {T : TypeId} {z n : Nat} {v : Value} (g : Loose w T z v n) (h : Shp w w') : Loose w' T z v n := by
  obtain ⟨xs, hl, ho⟩ := g
  rcases ho with ⟨e, h0⟩ | ⟨b, cap, cur, e, hb, hh, hn, hm, hs, ht⟩
  · exact ⟨xs, hl, .inl ⟨e, h0⟩⟩
  · obtain ⟨cur', h1, h2⟩ := h b cur T _ hh
    refine ⟨cur'.toList.take (n * z), ?_, .inr ⟨b, cap, cur', e, hb, h1, hn, hm, by omega, rfl⟩⟩
    have : n * z ≤ cap * z := Nat.mul_le_mul_right _ hn
    simp
    omega
theorem Loose.slice {w : World} {T : TypeId} {z n : Nat} {v : Value} (g : Loose w T z v n) : ∃ so sc, v = .slice so n sc := by
  obtain ⟨xs, h⟩ := g
  exact own_slice h
theorem Loose.at {w : World} {T : TypeId} {z n sc : Nat} {so : Option Addr} (g : Loose w T z (.slice so n sc) n) (h0 : 0 < n) : ∃ b, so = some ⟨b, 0, none⟩ ∧ ∀ j, j < n * z → (∃ v, w.cell? ⟨b, j, none⟩ = some v) ∧ w.frozen? ⟨b, j, none⟩ = false := by
  obtain ⟨xs, hl, ho⟩ := g
  rcases ho with ⟨e, h1⟩ | ⟨b, cap, cur, e, hb, hh, hn, hm, hs, ht⟩
  · omega
  · injection e with e1 _ e3
    subst e1
    have hle : n * z ≤ cap * z := Nat.mul_le_mul_right _ hn
    refine ⟨b, rfl, fun j hj => ⟨⟨cur[j]'(by omega), ?_⟩, ?_⟩⟩
    · simp [World.cell?, hh, show j < cur.size by omega]
    · simp [World.frozen?, hh]
/-- but for the blocks of P the world is as it was. -/
structure FR (P : Nat → Prop) (Z w : World) : Prop where
  os : w.os = Z.os
  tape : w.tape = Z.tape
  output : w.output = Z.output
  size : Z.heap.size ≤ w.heap.size
  shp : Shp Z w
  safe : ∀ k, k < Z.heap.size → ¬ P k → w.heap[k]? = Z.heap[k]?
theorem FR.refl (P : Nat → Prop) (Z : World) : FR P Z Z := ⟨rfl, rfl, rfl, Nat.le_refl _, Shp.refl _, fun _ _ _ => rfl⟩
theorem FR.trans {P : Nat → Prop} {a b c : World} (h : FR P a b) (k : FR P b c) : FR P a c := ⟨k.os.trans h.os, k.tape.trans h.tape, k.output.trans h.output, Nat.le_trans h.size k.size, h.shp.trans k.shp, fun i hi hn => (k.safe i (Nat.lt_of_lt_of_le hi h.size) hn).trans (h.safe i hi hn)⟩
theorem FR.below {P : Nat → Prop} {Z w w' : World} (h : FR P Z w) (hb : Below w.heap.size w w') : FR P Z w' := h.trans ⟨hb.os, hb.tape, hb.output, hb.size, Shp.below hb, fun k hk _ => hb.block k hk⟩
theorem FR.store {P : Nat → Prop} {Z w : World} (h : FR P Z w) {b : Nat} (hb : P b) (o : Nat) (v : Value) : FR P Z (w.setCell ⟨b, o, none⟩ v) := by
  refine h.trans ⟨rfl, rfl, rfl, by simp [World.setCell], Shp.store _ _ _ _, fun k _ hn => Below.heap_setCell _ _ _ _ (fun e => hn (by have e' : k = b := e; rw [e']; exact hb))⟩
theorem FR.grown {P : Nat → Prop} {Z w w' : World} {row : Option Nat} (h : FR P Z w) (hg : w.grownBy w' row) (hp : ∀ k, row = some k → P k) (hs : Shp w w') : FR P Z w' :=
  h.trans ⟨hg.os, hg.tape, hg.output, hg.size, hs, fun k hk hn => hg.block k hk (fun e => hn (hp k e.symm))⟩

theorem run_append_shp {P : Program} (w : World) (t ty e : TypeId) (i : TypeInfo) (z : Value) (size bytes : Nat) (ht : P.underlying t = some (.slice e)) (hi : P.info? e = some i) (hz : i.zero = some z)
    (hsize : i.size = size) (hby : i.bytes = bytes) (hzs : z.cells.size = size) (hsz : 0 < size) (v : Value) (n : Nat) (hown : Loose w e size v n)
    (a : Addr) (m c : Nat) (news : List Value) (hl : news.length = m * size) (hnews : ∀ j u, news[j]? = some u → w.cell? (a.add j) = some u) (h1 : ∀ u ∈ news, u.oneCell' = true)
    (h63 : n + m ≤ maxLen) (hbytes : (n + m) * bytes ≤ 140737488355328) :
    ∃ v' w', (Builtin.append_ #[t, t] ty #[v, .slice (some a) m c]).run P w = .ok v' w' ∧ (∃ lo c', v' = .slice lo (n + m) c') ∧ w.grownBy w' v.ownBlock ∧ Shp w w' := by
  obtain ⟨xs, hown⟩ := hown
  obtain ⟨v', w', hr, ho, hg, _, _⟩ := run_append_own_at (P := P) w 0 t ty e i z size bytes ht hi hz hsize hby hzs hsz v n xs hown a m c news hl hnews h1 h63 hbytes (Nat.zero_le _)
  refine ⟨v', w', hr, own_slice ho, hg, fun k cur T fr hk => ?_⟩
  by_cases hkg : some k = v.ownBlock
  · subst hsize
    subst hby
    rcases hown.2 with ⟨e1, _⟩ | ⟨b, cap, cur0, e1, hb, hh, hn, hm, hs, htk⟩
    · subst e1
      cases hkg
    · subst e1
      cases hkg
      rw [hk] at hh
      injection hh with hh
      injection hh with q1 q2 q3
      subst q1 q2 q3
      by_cases hroom : n + m ≤ cap
      · have hfit : n * i.size + news.length ≤ cur.size := by rw [hl, hs, ← Nat.add_mul]; exact Nat.mul_le_mul_right _ hroom
        have hr2 := run_append_room (P := P) w t ty T i ht hi b n cap cur hk a m c news hl hnews h1 hroom hfit
        rw [hr2] at hr
        injection hr with _ hr
        subst hr
        refine ⟨_, setRow_heap w b cur _ T _ hk, ?_⟩
        simp only [List.size_toArray, List.length_append, List.length_take, List.length_drop, Array.length_toList]
        omega
      · have hsmall : n + m ≤ 9223372036854775807 := by simp only [maxLen] at h63; omega
        have holds : ∀ j u, xs[j]? = some u → w.cell? ((⟨b, 0, none⟩ : Addr).add j) = some u := hown.cells (g := b) rfl
        have hr2 := run_append_grow (P := P) w t ty T i z ht hi hz ⟨b, 0, none⟩ n cap xs hown.1 holds a m c news hl hnews (by omega) (by omega) (growslice_fits (by omega) hbytes)
        rw [hr2] at hr
        injection hr with _ hr
        subst hr
        exact ⟨cur, (Below.heap_alloc w.drew _ b (some_lt (w := w.drew) hk)).trans hk, rfl⟩
  · exact ⟨cur, (hg.block k (some_lt hk) hkg).trans hk, rfl⟩
theorem wpList_append_shp {P : Program} (w : World) {ops : Array Oper} {rest : List Oper} {o : Oper} {a : Act} {Q : Exit → Act → World → Prop} (hgd : o.guard = none) (s x : Operand) (t : TypeId)
    (ho : o.op = .call { callee := .builtin .append, args := #[s, x], argTypes := #[t, t] })
    (e : TypeId) (i : TypeInfo) (z : Value) (size bytes : Nat) (ht : P.underlying t = some (.slice e)) (hi : P.info? e = some i) (hz : i.zero = some z)
    (hsize : i.size = size) (hby : i.bytes = bytes) (hzs : z.cells.size = size) (hsz : 0 < size)
    (v : Value) (n : Nat) (hs : a.eval s = v) (hown : Loose w e size v n)
    (ad : Addr) (m c : Nat) (news : List Value) (hx : a.eval x = .slice (some ad) m c) (hl : news.length = m * size) (hnews : ∀ j u, news[j]? = some u → w.cell? (ad.add j) = some u) (h1 : ∀ u ∈ news, u.oneCell' = true)
    (h63 : n + m ≤ maxLen) (hbytes : (n + m) * bytes ≤ 140737488355328)
    (h : ∀ v' w', (∃ lo c', v' = .slice lo (n + m) c') → w.grownBy w' v.ownBlock → Shp w w' → wpList P ops Q rest (a.put o.dst v') w') :
    wpList P ops Q (o :: rest) a w := by
  refine wpList_plain hgd fun K hK => ?_
  obtain ⟨v', w', hr, h2, h3, h4⟩ := run_append_shp (P := P) w t o.type e i z size bytes ht hi hz hsize hby hzs hsz v n hown ad m c news hl hnews h1 h63 hbytes
  unfold Oper.wp execOp
  simp only [ho, resolve, invoke, builtin, Sem.run_bind, Sem.run_pure, Result.andThen_ok, List.map_toArray, List.map_cons, List.map_nil, hs, hx, hr]
  exact hK _ _ (h v' w' h2 h3 h4)
end Go.Proofs.Ytkehpmbnbknpfaa.Hi
