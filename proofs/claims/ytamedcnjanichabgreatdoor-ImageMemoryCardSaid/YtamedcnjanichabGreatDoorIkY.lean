/- image: what writing into rows leaves alone (after hier's HgB); append keeps what stands ahead of it. the law ImageMemory. (Printed by genikm.py.) -/
import Derived.Test.YtamedcnjanichabGreatDoorIjX
import Derived.Maps.AppendAt
import Derived.Test.YtamedcnjanichabGreatDoorCrX
import Derived.Laws.CopyOwn
namespace Go.Proofs.YtamedcnjanichabGreatDoor.Hi
open Go.RowKit Go.Extern Go.Shelf

attribute [local go_sem] Oper.semAt_some

/-- rows keep their kind and their number of cells. -/
def Shp (w w' : World) : Prop := ∀ (k : Nat) (cur : Array Value) (T : TypeId) (fr : Nat × Nat), w.heap[k]? = some (.cells cur T fr) → ∃ cur', w'.heap[k]? = some (.cells cur' T fr) ∧ cur'.size = cur.size
theorem Shp.refl (w : World) : Shp w w := fun _ cur _ _ h => ⟨cur, h, rfl⟩
theorem Shp.trans {a b c : World} (h : Shp a b) (k : Shp b c) : Shp a c := fun i cur T fr hi => by
  obtain ⟨c1, h1, s1⟩ := h i cur T fr hi
  obtain ⟨c2, h2, s2⟩ := k i c1 T fr h1
  exact ⟨c2, h2, s2.trans s1⟩
theorem Shp.below {w w' : World} (h : Below w.heap.size w w') : Shp w w' := fun k cur _ _ hk => ⟨cur, (h.block k (some_lt hk)).trans hk, rfl⟩
theorem Shp.store (w : World) (b o : Nat) (v : Value) : Shp w (w.setCell ⟨b, o, none⟩ v) := fun k cur T fr hk => by
  by_cases e : k = b
  · subst e
    refine ⟨cur.setIfInBounds o v, ?_, by simp⟩
    simp [World.setCell, Array.getElem?_modify, hk]
  · exact ⟨cur, (Below.heap_setCell _ _ _ _ (by exact e)).trans hk, rfl⟩
theorem Shp.wr {w w' : World} (h : Shp w w') {b o : Nat} (hc : (∃ v, w.cell? ⟨b, o, none⟩ = some v) ∧ w.frozen? ⟨b, o, none⟩ = false) : (∃ v, w'.cell? ⟨b, o, none⟩ = some v) ∧ w'.frozen? ⟨b, o, none⟩ = false := by
  obtain ⟨⟨v, hv⟩, hf⟩ := hc
  cases hh : w.heap[b]? with
  | none => simp [World.cell?, hh] at hv
  | some ob =>
    cases ob with
    | cells cur T fr =>
      obtain ⟨cur', h1, h2⟩ := h b cur T fr hh
      simp [World.cell?, hh] at hv
      have hlt : o < cur'.size := by have := (Array.getElem?_eq_some_iff.1 hv).1; omega
      refine ⟨⟨cur'[o], by simp [World.cell?, h1, hlt]⟩, ?_⟩
      simp only [World.frozen?, hh] at hf
      simp only [World.frozen?, h1]
      exact hf
    | _ => simp [World.cell?, hh] at hv
/-- a row that is one's own, whatever it holds. -/
def Loose (w : World) (T : TypeId) (z : Nat) (v : Value) (n : Nat) : Prop := ∃ xs, w.ownsRow 0 T z v n xs
theorem Loose.shp {w w' : World} {T : TypeId} {z n : Nat} {v : Value} (g : Loose w T z v n) (h : Shp w w') : Loose w' T z v n := by
  obtain ⟨xs, hl, ho⟩ := g
  rcases ho with ⟨e, h0⟩ | ⟨b, cap, cur, e, hb, hh, hn, hm, hs, ht⟩
  · exact ⟨xs, hl, .inl ⟨e, h0⟩⟩
  · obtain ⟨cur', h1, h2⟩ := h b cur T _ hh
    refine ⟨cur'.toList.take (n * z), ?_, .inr ⟨b, cap, cur', e, hb, h1, hn, hm, by omega, rfl⟩⟩
    have : n * z ≤ cap * z := Nat.mul_le_mul_right _ hn
    simp
    omega
theorem Loose.slice {w : World} {T : TypeId} {z n : Nat} {v : Value} (g : Loose w T z v n) : ∃ so sc, v = .slice so n sc := by
  obtain ⟨xs, h⟩ := g
  exact own_slice h
theorem Loose.at {w : World} {T : TypeId} {z n sc : Nat} {so : Option Addr} (g : Loose w T z (.slice so n sc) n) (h0 : 0 < n) : ∃ b, so = some ⟨b, 0, none⟩ ∧ ∀ j, j < n * z → (∃ v, w.cell? ⟨b, j, none⟩ = some v) ∧ w.frozen? ⟨b, j, none⟩ = false := by
  obtain ⟨xs, hl, ho⟩ := g
  rcases ho with ⟨e, h1⟩ | ⟨b, cap, cur, e, hb, hh, hn, hm, hs, ht⟩
  · omega
  · injection e with e1 _ e3
    subst e1
    have hle : n * z ≤ cap * z := Nat.mul_le_mul_right _ hn
    refine ⟨b, rfl, fun j hj => ⟨⟨cur[j]'(by omega), ?_⟩, ?_⟩⟩
    · simp [World.cell?, hh, show j < cur.size by omega]
    · simp [World.frozen?, hh]
/-- but for the blocks of P the world is as it was. -/
structure FR (P : Nat → Prop) (Z w : World) : Prop where
  os : w.os = Z.os
  tape : w.tape = Z.tape
  output : w.output = Z.output
  size : Z.heap.size ≤ w.heap.size
  shp : Shp Z w
  safe : ∀ k, k < Z.heap.size → ¬ P k → w.heap[k]? = Z.heap[k]?
theorem FR.refl (P : Nat → Prop) (Z : World) : FR P Z Z := ⟨rfl, rfl, rfl, Nat.le_refl _, Shp.refl _, fun _ _ _ => rfl⟩
theorem FR.trans {P : Nat → Prop} {a b c : World} (h : FR P a b) (k : FR P b c) : FR P a c := ⟨k.os.trans h.os, k.tape.trans h.tape, k.output.trans h.output, Nat.le_trans h.size k.size, h.shp.trans k.shp, fun i hi hn => (k.safe i (Nat.lt_of_lt_of_le hi h.size) hn).trans (h.safe i hi hn)⟩
theorem FR.below {P : Nat → Prop} {Z w w' : World} (h : FR P Z w) (hb : Below w.heap.size w w') : FR P Z w' := h.trans ⟨hb.os, hb.tape, hb.output, hb.size, Shp.below hb, fun k hk _ => hb.block k hk⟩
theorem FR.store {P : Nat → Prop} {Z w : World} (h : FR P Z w) {b : Nat} (hb : P b) (o : Nat) (v : Value) : FR P Z (w.setCell ⟨b, o, none⟩ v) := by
  refine h.trans ⟨rfl, rfl, rfl, by simp [World.setCell], Shp.store _ _ _ _, fun k _ hn => Below.heap_setCell _ _ _ _ (fun e => hn (by have e' : k = b := e; rw [e']; exact hb))⟩
theorem FR.grown {P : Nat → Prop} {Z w w' : World} {row : Option Nat} (h : FR P Z w) (hg : w.grownBy w' row) (hp : ∀ k, row = some k → P k) (hs : Shp w w') : FR P Z w' :=
  h.trans ⟨hg.os, hg.tape, hg.output, hg.size, hs, fun k hk hn => hg.block k hk (fun e => hn (hp k e.symm))⟩

theorem run_append_shp {P : Program} (w : World) (t ty e : TypeId) (i : TypeInfo) (z : Value) (size bytes : Nat) (ht : P.underlying t = some (.slice e)) (hi : P.info? e = some i) (hz : i.zero = some z)
    (hsize : i.size = size) (hby : i.bytes = bytes) (hzs : z.cells.size = size) (hsz : 0 < size) (v : Value) (n : Nat) (hown : Loose w e size v n)
    (a : Addr) (m c : Nat) (news : List Value) (hl : news.length = m * size) (hnews : ∀ j u, news[j]? = some u → w.cell? (a.add j) = some u) (h1 : ∀ u ∈ news, u.oneCell' = true)
    (h63 : n + m ≤ maxLen) (hbytes : (n + m) * bytes ≤ 140737488355328) :
    ∃ v' w', (Builtin.append_ #[t, t] ty #[v, .slice (some a) m c]).run P w = .ok v' w' ∧ (∃ lo c', v' = .slice lo (n + m) c') ∧ w.grownBy w' v.ownBlock ∧ Shp w w' := by
  obtain ⟨xs, hown⟩ := hown
  obtain ⟨v', w', hr, ho, hg, _, _⟩ := run_append_own_at (P := P) w 0 t ty e i z size bytes ht hi hz hsize hby hzs hsz v n xs hown a m c news hl hnews h1 h63 hbytes (Nat.zero_le _)
  refine ⟨v', w', hr, own_slice ho, hg, fun k cur T fr hk => ?_⟩
  by_cases hkg : some k = v.ownBlock
  · subst hsize
    subst hby
    rcases hown.2 with ⟨e1, _⟩ | ⟨b, cap, cur0, e1, hb, hh, hn, hm, hs, htk⟩
    · subst e1
      cases hkg
    · subst e1
      cases hkg
      rw [hk] at hh
      injection hh with hh
      injection hh with q1 q2 q3
      subst q1 q2 q3
      by_cases hroom : n + m ≤ cap
      · have hfit : n * i.size + news.length ≤ cur.size := by rw [hl, hs, ← Nat.add_mul]; exact Nat.mul_le_mul_right _ hroom
        have hr2 := run_append_room (P := P) w t ty T i ht hi b n cap cur hk a m c news hl hnews h1 hroom hfit
        rw [hr2] at hr
        injection hr with _ hr
        subst hr
        refine ⟨_, setRow_heap w b cur _ T _ hk, ?_⟩
        simp only [List.size_toArray, List.length_append, List.length_take, List.length_drop, Array.length_toList]
        omega
      · have hsmall : n + m ≤ 9223372036854775807 := by simp only [maxLen] at h63; omega
        have holds : ∀ j u, xs[j]? = some u → w.cell? ((⟨b, 0, none⟩ : Addr).add j) = some u := hown.cells (g := b) rfl
        have hr2 := run_append_grow (P := P) w t ty T i z ht hi hz ⟨b, 0, none⟩ n cap xs hown.1 holds a m c news hl hnews (by omega) (by omega) (growslice_fits (by omega) hbytes)
        rw [hr2] at hr
        injection hr with _ hr
        subst hr
        exact ⟨cur, (Below.heap_alloc w.drew _ b (some_lt (w := w.drew) hk)).trans hk, rfl⟩
  · exact ⟨cur, (hg.block k (some_lt hk) hkg).trans hk, rfl⟩
theorem wpList_append_shp {P : Program} (w : World) {ops : Array Oper} {rest : List Oper} {o : Oper} {a : Act} {Q : Exit → Act → World → Prop} (hgd : o.guard = none) (s x : Operand) (t : TypeId)
    (ho : o.op = .call { callee := .builtin .append, args := #[s, x], argTypes := #[t, t] })
    (e : TypeId) (i : TypeInfo) (z : Value) (size bytes : Nat) (ht : P.underlying t = some (.slice e)) (hi : P.info? e = some i) (hz : i.zero = some z)
    (hsize : i.size = size) (hby : i.bytes = bytes) (hzs : z.cells.size = size) (hsz : 0 < size)
    (v : Value) (n : Nat) (hs : a.eval s = v) (hown : Loose w e size v n)
    (ad : Addr) (m c : Nat) (news : List Value) (hx : a.eval x = .slice (some ad) m c) (hl : news.length = m * size) (hnews : ∀ j u, news[j]? = some u → w.cell? (ad.add j) = some u) (h1 : ∀ u ∈ news, u.oneCell' = true)
    (h63 : n + m ≤ maxLen) (hbytes : (n + m) * bytes ≤ 140737488355328)
    (h : ∀ v' w', (∃ lo c', v' = .slice lo (n + m) c') → w.grownBy w' v.ownBlock → Shp w w' → wpList P ops Q rest (a.put o.dst v') w') :
    wpList P ops Q (o :: rest) a w := by
  refine wpList_plain hgd fun K hK => ?_
  obtain ⟨v', w', hr, h2, h3, h4⟩ := run_append_shp (P := P) w t o.type e i z size bytes ht hi hz hsize hby hzs hsz v n hown ad m c news hl hnews h1 h63 hbytes
  unfold Oper.wp execOp
  simp only [ho, resolve, invoke, builtin, Sem.run_bind, Sem.run_pure, Result.andThen_ok, List.map_toArray, List.map_cons, List.map_nil, hs, hx, hr]
  exact hK _ _ (h v' w' h2 h3 h4)

/-- the blocks of a hierarchy's five rows. -/
def Blk (u : HV) (h : Hr) (k : Nat) : Prop := (Value.slice u.no h.node.length u.nc).ownBlock = some k ∨ (Value.slice u.uo h.upF.length u.uc).ownBlock = some k ∨ (Value.slice u.ul h.up.length u.ulc).ownBlock = some k ∨ (Value.slice u.wo h.dnF.length u.wc).ownBlock = some k ∨ (Value.slice u.dl h.dn.length u.dlc).ownBlock = some k
theorem OwnH.blk {w : World} {B : Nat} {u : HV} {h : Hr} (g : OwnH w B u h) {k : Nat} (hk : Blk u h k) : B ≤ k ∧ k < w.heap.size := by
  rcases hk with e | e | e | e | e
  · exact g.node.lt k e
  · exact g.upF.lt k e
  · exact g.up.lt k e
  · exact g.dnF.lt k e
  · exact g.dn.lt k e
theorem OwnH.safe {w w' : World} {B : Nat} {u : HV} {h : Hr} (g : OwnH w B u h) (hs : ∀ k, Blk u h k → w'.heap[k]? = w.heap[k]?) : OwnH w' B u h :=
  ⟨own_keep g.node fun k _ e hh => (hs k (.inl e)).trans hh, own_keep g.upF fun k _ e hh => (hs k (.inr (.inl e))).trans hh, own_keep g.up fun k _ e hh => (hs k (.inr (.inr (.inl e)))).trans hh, own_keep g.dnF fun k _ e hh => (hs k (.inr (.inr (.inr (.inl e))))).trans hh, own_keep g.dn fun k _ e hh => (hs k (.inr (.inr (.inr (.inr e))))).trans hh⟩
theorem OwnH.grow {w w' : World} {B : Nat} {u : HV} {h : Hr} (g : OwnH w B u h) (hb : Below w.heap.size w w') : OwnH w' B u h := g.safe fun k hk => hb.block k (g.blk hk).2
theorem loose_of {w : World} {B : Nat} {T : TypeId} {z n : Nat} {v : Value} {xs : List Value} (g : w.ownsRow B T z v n xs) : Loose w T z v n := ⟨xs, row_low g (Nat.zero_le _)⟩
/-- append leaves the cells ahead of the row's end, and all other blocks. -/
theorem run_append_kept {P : Program} (w : World) (t ty e : TypeId) (i : TypeInfo) (z : Value) (size bytes : Nat) (ht : P.underlying t = some (.slice e)) (hi : P.info? e = some i) (hz : i.zero = some z)
    (hsize : i.size = size) (hby : i.bytes = bytes) (hzs : z.cells.size = size) (hsz : 0 < size) (v : Value) (n : Nat) (hown : Loose w e size v n)
    (a : Addr) (m c : Nat) (news : List Value) (hl : news.length = m * size) (hnews : ∀ j u, news[j]? = some u → w.cell? (a.add j) = some u) (h1 : ∀ u ∈ news, u.oneCell' = true)
    (h63 : n + m ≤ maxLen) (hbytes : (n + m) * bytes ≤ 140737488355328) :
    ∃ v' w', (Builtin.append_ #[t, t] ty #[v, .slice (some a) m c]).run P w = .ok v' w' ∧ (∃ lo c', v' = .slice lo (n + m) c') ∧ w.grownBy w' v.ownBlock ∧ Shp w w' ∧ ∀ k o u, (v.ownBlock = some k → o < n * size) → w.cell? ⟨k, o, none⟩ = some u → w'.cell? ⟨k, o, none⟩ = some u := by
  obtain ⟨v', w', hr, h2, h3, h4⟩ := run_append_shp (P := P) w t ty e i z size bytes ht hi hz hsize hby hzs hsz v n hown a m c news hl hnews h1 h63 hbytes
  refine ⟨v', w', hr, h2, h3, h4, fun k o u hk hc => ?_⟩
  have hlt : k < w.heap.size := by
    rcases Nat.lt_or_ge k w.heap.size with q | q
    · exact q
    · simp [World.cell?, Array.getElem?_eq_none q] at hc
  by_cases hkg : some k = v.ownBlock
  · have ho := hk hkg.symm
    subst hsize
    subst hby
    obtain ⟨xs, hown⟩ := hown
    rcases hown.2 with ⟨e1, _⟩ | ⟨b, cap, cur0, e1, hb, hh, hn, hm, hs, htk⟩
    · subst e1
      cases hkg
    · subst e1
      cases hkg
      by_cases hroom : n + m ≤ cap
      · have hfit : n * i.size + news.length ≤ cur0.size := by rw [hl, hs, ← Nat.add_mul]; exact Nat.mul_le_mul_right _ hroom
        have hr2 := run_append_room (P := P) w t ty e i ht hi b n cap cur0 hh a m c news hl hnews h1 hroom hfit
        rw [hr2] at hr
        injection hr with _ hr
        subst hr
        have g := setRow_heap w b cur0 (cur0.toList.take (n * i.size) ++ news ++ cur0.toList.drop (n * i.size + news.length)).toArray e _ hh
        simp only [World.cell?, g]
        simp only [World.cell?, hh] at hc
        rw [← hc]
        have hle : o < (cur0.toList.take (n * i.size)).length := by rw [List.length_take, Array.length_toList]; omega
        simp only [List.getElem?_toArray]
        rw [List.append_assoc, List.getElem?_append_left hle, List.getElem?_take_of_lt ho, Array.getElem?_toList]
      · have hsmall : n + m ≤ 9223372036854775807 := by simp only [maxLen] at h63; omega
        have holds : ∀ j u, xs[j]? = some u → w.cell? ((⟨b, 0, none⟩ : Addr).add j) = some u := hown.cells (g := b) rfl
        have hr2 := run_append_grow (P := P) w t ty e i z ht hi hz ⟨b, 0, none⟩ n cap xs hown.1 holds a m c news hl hnews (by omega) (by omega) (growslice_fits (by omega) hbytes)
        rw [hr2] at hr
        injection hr with _ hr
        subst hr
        have q := Below.heap_alloc w.drew (.cells (xs.toArray ++ news.toArray ++ Builtin.zeroCells z.cells (grownCap w (n + m) cap e - (n + m))) e) b hlt
        rw [← hc]
        exact World.cell?_of_block (a := ⟨b, o, none⟩) q
  · rw [← hc]
    exact World.cell?_of_block (a := ⟨k, o, none⟩) (h3.block k hlt hkg)
theorem wpList_append_kept {P : Program} (w : World) {ops : Array Oper} {rest : List Oper} {o : Oper} {a : Act} {Q : Exit → Act → World → Prop} (hgd : o.guard = none) (s x : Operand) (t : TypeId)
    (ho : o.op = .call { callee := .builtin .append, args := #[s, x], argTypes := #[t, t] })
    (e : TypeId) (i : TypeInfo) (z : Value) (size bytes : Nat) (ht : P.underlying t = some (.slice e)) (hi : P.info? e = some i) (hz : i.zero = some z)
    (hsize : i.size = size) (hby : i.bytes = bytes) (hzs : z.cells.size = size) (hsz : 0 < size)
    (v : Value) (n : Nat) (hs : a.eval s = v) (hown : Loose w e size v n)
    (ad : Addr) (m c : Nat) (news : List Value) (hx : a.eval x = .slice (some ad) m c) (hl : news.length = m * size) (hnews : ∀ j u, news[j]? = some u → w.cell? (ad.add j) = some u) (h1 : ∀ u ∈ news, u.oneCell' = true)
    (h63 : n + m ≤ maxLen) (hbytes : (n + m) * bytes ≤ 140737488355328)
    (h : ∀ v' w', (∃ lo c', v' = .slice lo (n + m) c') → w.grownBy w' v.ownBlock → Shp w w' → (∀ k o u, (v.ownBlock = some k → o < n * size) → w.cell? ⟨k, o, none⟩ = some u → w'.cell? ⟨k, o, none⟩ = some u) → wpList P ops Q rest (a.put o.dst v') w') :
    wpList P ops Q (o :: rest) a w := by
  refine wpList_plain hgd fun K hK => ?_
  obtain ⟨v', w', hr, h2, h3, h4, h5⟩ := run_append_kept (P := P) w t o.type e i z size bytes ht hi hz hsize hby hzs hsz v n hown ad m c news hl hnews h1 h63 hbytes
  unfold Oper.wp execOp
  simp only [ho, resolve, invoke, builtin, Sem.run_bind, Sem.run_pure, Result.andThen_ok, List.map_toArray, List.map_cons, List.map_nil, hs, hx, hr]
  exact hK _ _ (h v' w' h2 h3 h4 h5)
theorem build_three32 (a b c : Option Addr) (m n o k l s : Nat) (wx : World) : (Instr.buildSlice 38 3 #[(0, .slice a m k), (1, .slice b n l), (2, .slice c o s)]).run Tryz.prog wx = .ok (.slice (some ⟨wx.heap.size, 0, none⟩) 3 3) (wx.alloc (.cells #[.slice a m k, .slice b n l, .slice c o s] 22)) := by kernel_rfl
theorem build_twoL (a b : Option Addr) (m n k l : Nat) (wx : World) : (Instr.buildSlice 40 2 #[(0, .slice a m k), (1, .slice b n l)]).run Tryz.prog wx = .ok (.slice (some ⟨wx.heap.size, 0, none⟩) 2 2) (wx.alloc (.cells #[.slice a m k, .slice b n l] 23)) := by kernel_rfl
theorem build_l9 (wx : World) : (Instr.build 43 #[(0, .int .u32 9)]).run Tryz.prog wx = .ok (.agg #[.int .u32 9, .int .u64 0, .int .u32 0, .int .u32 0]) wx := by kernel_rfl
end Go.Proofs.YtamedcnjanichabGreatDoor.Hi

namespace Go.Proofs.YtamedcnjanichabGreatDoor
open Go.RowKit Go.Extern Cr Hi

attribute [local go_sem] Oper.semAt_some

theorem dH_few {l : List Nat} (hb : Bts l) : (dH l).node.length ≤ 65537 ∧ (dH l).upF.length ≤ 65537 ∧ (dH l).dnF.length ≤ 65537 ∧ (dH l).up.length ≤ 1048576 ∧ (dH l).dn.length ≤ 1048576 := by
  by_cases h : fE l = (0, [])
  · obtain ⟨ho, _⟩ := frame_ok hb h
    by_cases hc : Hi.chk (hOf l) = (0, [])
    · rw [(dE_good h hc).2]
      obtain ⟨s1, s2, s3, s4, s5⟩ := ho.sm
      exact ⟨by omega, by omega, by omega, by omega, by omega⟩
    · rw [(dE_chk h hc).2]
      exact ⟨by decide, by decide, by decide, by decide, by decide⟩
  · rw [(dE_bad h).2]
    exact ⟨by decide, by decide, by decide, by decide, by decide⟩
/-- the three lists of words of what was read. -/
def row3 (u : HV) (D : Hr) : Nat → Option Addr × Nat × Nat
  | 0 => (u.no, D.node.length, u.nc)
  | 1 => (u.uo, D.upF.length, u.uc)
  | _ => (u.wo, D.dnF.length, u.wc)
theorem row3_apart {u : HV} {D : Hr} (h : Ap3 u) {i j : Nat} (hij : i < j) (hj : j < 3) {a b : Addr} (ha : (row3 u D i).1 = some a) (hb : (row3 u D j).1 = some b) : a.block ≠ b.block := by
  obtain ⟨h1, h2, h3⟩ := h
  have hc : (i = 0 ∧ j = 1) ∨ (i = 0 ∧ j = 2) ∨ (i = 1 ∧ j = 2) := by omega
  rcases hc with ⟨rfl, rfl⟩ | ⟨rfl, rfl⟩ | ⟨rfl, rfl⟩
  · have := h1 a b ha hb
    omega
  · have := h3 a b ha hb
    omega
  · have := h2 a b ha hb
    omega
/-- the first i of them hold nothing but sevens. -/
def Sev (u : HV) (D : Hr) (i : Nat) (w : World) : Prop := ∀ k b j, k < i → (row3 u D k).1 = some ⟨b, 0, none⟩ → j < (row3 u D k).2.1 → w.cell? ⟨b, j, none⟩ = some (.int .u32 7777)
/-- the first j cells of a row are sevens. -/
def Pre7 (so : Option Addr) (j : Nat) (w : World) : Prop := ∀ b q, so = some ⟨b, 0, none⟩ → q < j → w.cell? ⟨b, q, none⟩ = some (.int .u32 7777)
theorem cell_set_same {w : World} {b o : Nat} {v u : Value} (h : w.cell? ⟨b, o, none⟩ = some u) : (w.setCell ⟨b, o, none⟩ v).cell? ⟨b, o, none⟩ = some v := by
  cases hh : w.heap[b]? with
  | none => simp [World.cell?, hh] at h
  | some ob =>
    cases ob with
    | cells cur T fr =>
      simp [World.cell?, hh] at h
      have hlt := (Array.getElem?_eq_some_iff.1 h).1
      simp [World.cell?, World.setCell, Array.getElem?_modify, hh, hlt]
    | _ => simp [World.cell?, hh] at h
theorem cell_set_far {w : World} {b o : Nat} {v : Value} {k q : Nat} (h : k ≠ b ∨ q ≠ o) : (w.setCell ⟨b, o, none⟩ v).cell? ⟨k, q, none⟩ = w.cell? ⟨k, q, none⟩ := by
  by_cases e : k = b
  · subst e
    have hq : q ≠ o := by rcases h with h | h; exact absurd rfl h; exact h
    cases hh : w.heap[k]? with
    | none => simp [World.cell?, World.setCell, Array.getElem?_modify, hh]
    | some ob =>
      cases ob with
      | cells cur T fr => simp [World.cell?, World.setCell, Array.getElem?_modify, hh, Array.getElem?_setIfInBounds_ne (Ne.symm hq)]
      | _ => simp [World.cell?, World.setCell, Array.getElem?_modify, hh]
  · exact World.cell?_of_block (a := ⟨k, q, none⟩) (Below.heap_setCell _ _ _ _ (by exact e))
theorem Sev.set {u : HV} {D : Hr} {i : Nat} {w : World} (h : Sev u D i w) (hap : Ap3 u) (hi : i < 3) {b j : Nat} (hb : (row3 u D i).1 = some ⟨b, 0, none⟩) (v : Value) : Sev u D i (w.setCell ⟨b, j, none⟩ v) := fun k b' q hk hb' hq => by
  rw [cell_set_far (Or.inl (row3_apart hap hk hi hb' hb))]
  exact h k b' q hk hb' hq
theorem Pre7.set {so : Option Addr} {j : Nat} {w : World} {b : Nat} {u : Value} (h : Pre7 so j w) (hso : so = some ⟨b, 0, none⟩) (hc : w.cell? ⟨b, j, none⟩ = some u) : Pre7 so (j + 1) (w.setCell ⟨b, j, none⟩ (.int .u32 7777)) := fun b' q hb' hq => by
  rw [hso] at hb'
  injection hb' with hb'
  injection hb' with hb'
  subst hb'
  by_cases e : q = j
  · subst e
    exact cell_set_same hc
  · rw [cell_set_far (Or.inr e)]
    exact h b q hso (by omega)
theorem Sev.step {u : HV} {D : Hr} {i : Nat} {w w' : World} {sc : Nat} (h : Sev u D i w) (hp : Pre7 (row3 u D i).1 (row3 u D i).2.1 w) (hap : Ap3 u) (hi : i < 3) (hk : ∀ k o v, ((Value.slice (row3 u D i).1 (row3 u D i).2.1 sc).ownBlock = some k → o < (row3 u D i).2.1 * 1) → w.cell? ⟨k, o, none⟩ = some v → w'.cell? ⟨k, o, none⟩ = some v) : Sev u D (i + 1) w' := fun k b j hki hb hj => by
  by_cases e : k = i
  · subst e
    exact hk b j _ (fun _ => by omega) (hp b j hb hj)
  · refine hk b j _ (fun hx => ?_) (h k b j (by omega) hb hj)
    cases hr : (row3 u D i).1 with
    | none => rw [hr] at hx; cases hx
    | some a =>
      rw [hr] at hx
      have ea : a.block = b := Option.some.inj hx
      exact absurd ea.symm (row3_apart hap (by omega) hi hb hr)
theorem pre7_keep {so : Option Addr} {j : Nat} {w w' : World} (h : Pre7 so j w) (hb : Below w.heap.size w w') : Pre7 so j w' := fun b q hb' hq => by
  have c := h b q hb' hq
  have hlt : b < w.heap.size := by
    rcases Nat.lt_or_ge b w.heap.size with x | x
    · exact x
    · simp [World.cell?, Array.getElem?_eq_none x] at c
  rw [← c]
  exact World.cell?_of_block (a := ⟨b, q, none⟩) (hb.block b hlt)
theorem Sev.keep {u : HV} {D : Hr} {i : Nat} {w w' : World} (h : Sev u D i w) (hb : Below w.heap.size w w') : Sev u D i w' := fun k b j hk hb' hj => by
  have q := h k b j hk hb' hj
  have hlt : b < w.heap.size := by
    rcases Nat.lt_or_ge b w.heap.size with x | x
    · exact x
    · simp [World.cell?, Array.getElem?_eq_none x] at q
  rw [← q]
  exact World.cell?_of_block (a := ⟨b, j, none⟩) (hb.block b hlt)

set_option maxRecDepth 100000 in
set_option maxHeartbeats 16000000 in
theorem imageMemory_calls (v : Hi.HV) (h : Hi.Hr) (xo : Option Addr) (xc : Nat) (x : List Nat) (w : World) (hH : Hi.HasH w v h) (hr : Hi.Reach h) (hxl : HasB w (.slice xo x.length xc) x) (hxc : x.length ≤ xc) (hxb : Bts x) (hxm : x.length ≤ 140737488351232) (hf : HasFours w) (hg : 1 < w.heap.size) (hty : HasType w) :
    Calls Tryz.prog 3 #[Hi.hvl v h, .slice xo x.length xc] w fun e w' => e = .returned (.bool true) ∧ Below w.heap.size w w' := by
  have hb1 : h.up.length ≤ 1152921504606846976 := by have := hr.up; omega
  have hb2 : h.dn.length ≤ 1152921504606846976 := by have := hr.dn; omega
  have hb3 : h.node.length ≤ 1152921504606846976 := by have := hr.node; omega
  obtain ⟨W0, hW0⟩ : ∃ W0, w.alloc (.cells #[.slice v.no h.node.length v.nc, .slice v.uo h.upF.length v.uc, .slice v.ul h.up.length v.ulc, .slice v.wo h.dnF.length v.wc, .slice v.dl h.dn.length v.dlc] 25) = W0 := ⟨_, rfl⟩
  have HW0 : Hid (w.alloc (.cells #[.slice v.no h.node.length v.nc, .slice v.uo h.upF.length v.uc, .slice v.ul h.up.length v.ulc, .slice v.wo h.dnF.length v.wc, .slice v.dl h.dn.length v.dlc] 25) = W0) := hW0
  have hB0 : Below w.heap.size w W0 := by rw [← hW0]; exact (Below.refl _ _).alloc (Nat.le_refl _) _
  have hbx : W0.heap[w.heap.size]? = some (.cells #[.slice v.no h.node.length v.nc, .slice v.uo h.upF.length v.uc, .slice v.ul h.up.length v.ulc, .slice v.wo h.dnF.length v.wc, .slice v.dl h.dn.length v.dlc] 25) := by rw [← hW0]; exact heap_new _ _
  have HX : Hid (∀ wx, Below W0.heap.size W0 wx → (wx.cell? ⟨w.heap.size, 0, none⟩ = some (.slice v.no h.node.length v.nc) ∧ wx.cell? ⟨w.heap.size, 1, none⟩ = some (.slice v.uo h.upF.length v.uc) ∧ wx.cell? ⟨w.heap.size, 2, none⟩ = some (.slice v.ul h.up.length v.ulc) ∧ wx.cell? ⟨w.heap.size, 3, none⟩ = some (.slice v.wo h.dnF.length v.wc) ∧ wx.cell? ⟨w.heap.size, 4, none⟩ = some (.slice v.dl h.dn.length v.dlc)) ∧ w.heap.size < wx.heap.size ∧ Below w.heap.size w wx) := fun wx hb => by
    have q := (hb.block _ (w_lt_get hbx)).trans hbx
    exact ⟨cells5 q, w_lt_get q, hB0.trans (hb.mono hB0.size)⟩
  have HV : Hid (∀ wx, Below W0.heap.size W0 wx → Hi.HasH wx v h) := fun wx hb => hH.keep (HX.out wx hb).2.2
  have HFR : Hid (∀ wx, Below W0.heap.size W0 wx → HasFours wx ∧ 1 < wx.heap.size ∧ HasType wx) := fun wx hb => ⟨fours_keep hf hg (HX.out wx hb).2.2, Nat.lt_of_lt_of_le hg (HX.out wx hb).2.2.size, hty.keep (HX.out wx hb).2.2 hty.pos⟩
  have HAW : Hid (Calls Tryz.prog 4 #[] W0 fun e w' => e = .returned (.bool true) ∧ Below W0.heap.size W0 w') := awake19_calls W0 (HFR.out W0 (Below.refl _ _)).1 (HFR.out W0 (Below.refl _ _)).2.1
  have HGR : Hid (∀ wx, Calls Tryz.prog 5 #[.agg #[.slice v.no h.node.length v.nc, .slice v.uo h.upF.length v.uc, .slice v.ul h.up.length v.ulc, .slice v.wo h.dnF.length v.wc, .slice v.dl h.dn.length v.dlc]] wx fun e w' => e = .returned (.bool (greatI h)) ∧ Below wx.heap.size wx w') := fun wx => great19_calls v h wx hb1 hb2
  have HXB : Hid (∀ wx, Below W0.heap.size W0 wx → HasB wx (.slice xo x.length xc) x) := fun wx hx => hxl.keep (HX.out wx hx).2.2
  have HXW : Hid (∀ wx, Below w.heap.size w wx → HasB wx (.slice xo x.length xc) x) := fun wx hx => hxl.keep hx
  have HVW : Hid (∀ wx, Below w.heap.size w wx → Hi.HasH wx v h) := fun wx hx => hH.keep hx
  have HXZ : Hid (∀ wx, Below W0.heap.size W0 wx → wx.heap[w.heap.size]? = some (.cells #[.slice v.no h.node.length v.nc, .slice v.uo h.upF.length v.uc, .slice v.ul h.up.length v.ulc, .slice v.wo h.dnF.length v.wc, .slice v.dl h.dn.length v.dlc] 25)) := fun wx hx => (hx.block _ (w_lt_get hbx)).trans hbx
  have HTW : Hid (∀ wx, Below W0.heap.size W0 wx → Calls Tryz.prog 7 #[.agg #[.slice v.no h.node.length v.nc, .slice v.uo h.upF.length v.uc, .slice v.ul h.up.length v.ulc, .slice v.wo h.dnF.length v.wc, .slice v.dl h.dn.length v.dlc]] wx fun e w' => ∃ u : Hi.HV, e = .returned (.agg #[.slice u.no h.node.length u.nc, .slice u.uo h.upF.length u.uc, .slice u.ul h.up.length u.ulc, .slice u.wo h.dnF.length u.wc, .slice u.dl h.dn.length u.dlc]) ∧ Hi.OwnH w' wx.heap.size u h ∧ Below wx.heap.size wx w') := fun wx hb => Hi.twin_own v h wx (HV.out wx hb) hr
  have HOKh : Hid (OkH h) := ⟨Hi.HasWs.ok hH.node, Hi.HasWs.ok hH.upF, (fun x hx => by obtain ⟨j, hj⟩ := List.getElem?_of_mem hx; exact (hH.up.at hj).1), Hi.HasWs.ok hH.dnF, (fun x hx => by obtain ⟨j, hj⟩ := List.getElem?_of_mem hx; exact (hH.dn.at hj).1)⟩
  have HSHh : Hid (Hi.Short h) := ⟨by omega, by have := hr.upF; omega, by omega, by have := hr.dnF; omega, by omega⟩
  have HDA : Hid (∀ wx ro rc, x.length ≤ 100000 → Below W0.heap.size W0 wx → HasB wx (.slice ro x.length rc) x → x.length ≤ rc → Calls Tryz.prog 6 #[.slice ro x.length rc] wx fun e w' => ∃ (u : Hi.HV) (vv : Value), e = .returned (.tuple #[.agg #[.slice u.no (dH x).node.length u.nc, .slice u.uo (dH x).upF.length u.uc, .slice u.ul (dH x).up.length u.ulc, .slice u.wo (dH x).dnF.length u.wc, .slice u.dl (dH x).dn.length u.dlc], vv]) ∧ Hi.OwnH w' wx.heap.size u (dH x) ∧ Below wx.heap.size wx w' ∧ Ap3 u) := fun wx ro rc hs hx h1 h2 => by
    refine (decode_allA ro rc x wx h1 h2 hxb (by omega) (HFR.out wx hx).1 (HFR.out wx hx).2.1 (HFR.out wx hx).2.2).mono ?_
    rintro e w' ⟨u, vv, rfl, hu, _, hb2, hap⟩
    exact ⟨u, vv, rfl, hu, hb2, hap⟩
  have HDD : Hid (∀ wx, x.length ≤ 100000 → HasB wx (.slice xo x.length xc) x → Calls Tryz.prog 11 #[.slice xo x.length xc] wx fun e w' => ∃ (u : Hi.HV) (c1 : Int) (lb : Option Addr) (n1 cb : Nat), e = .returned (.tuple #[.agg #[.slice u.no (dH x).node.length u.nc, .slice u.uo (dH x).upF.length u.uc, .slice u.ul (dH x).up.length u.ulc, .slice u.wo (dH x).dnF.length u.wc, .slice u.dl (dH x).dn.length u.dlc], .agg #[.int .i64 c1, .slice lb n1 cb]]) ∧ Hi.HasH w' u (dH x) ∧ Below wx.heap.size wx w') := fun wx hs hx => by
    refine (docDecode_all xo xc x wx hx hxc hxb (by omega)).mono ?_
    rintro e w' ⟨u, lb, cb, rfl, hu, _, hb2⟩
    exact ⟨u, _, lb, _, cb, rfl, hu, hb2⟩
  have HDK : Hid (OkH (dH x) ∧ Hi.Short (dH x)) := ⟨dH_ok hxb, dH_short hxb⟩
  have HFW : Hid ((dH x).node.length ≤ 65537 ∧ (dH x).upF.length ≤ 65537 ∧ (dH x).dnF.length ≤ 65537 ∧ (dH x).up.length ≤ 1048576 ∧ (dH x).dn.length ≤ 1048576) := dH_few hxb
  obtain ⟨L, hLN⟩ : ∃ (L : List Nat), (Hi.chk h = (0, []) ∧ L = imB h) ∨ (Hi.chk h ≠ (0, []) ∧ L = []) := by
    by_cases hc : Hi.chk h = (0, [])
    · exact ⟨_, Or.inl ⟨hc, rfl⟩⟩
    · exact ⟨_, Or.inr ⟨hc, rfl⟩⟩
  have HLL : Hid (L.length ≤ 100000000) := by
    rcases hLN with ⟨hc, rfl⟩ | ⟨_, rfl⟩
    · have hi : ImgOk (imB h) h := imB_ok (small_of_chk hc) (imW_ok (small_of_chk hc) hH)
      have q1 := hi.len
      have q2 := hi.sm.n
      have q3 := hi.sm.u
      have q4 := hi.sm.d
      show (imB h).length ≤ _
      omega
    · exact Nat.zero_le _
  have HEN : Hid (∀ wx (u : Hi.HV), Below W0.heap.size W0 wx → Hi.HasH wx u h → NilH u → Calls Tryz.prog 8 #[.agg #[.slice u.no h.node.length u.nc, .slice u.uo h.upF.length u.uc, .slice u.ul h.up.length u.ulc, .slice u.wo h.dnF.length u.wc, .slice u.dl h.dn.length u.dlc]] wx fun e w' => ∃ (mo : Option Addr) (mc : Nat) (vv : Value), e = .returned (.tuple #[.slice mo L.length mc, vv]) ∧ w'.ownsRow wx.heap.size 5 1 (.slice mo L.length mc) L.length (bv L) ∧ Below wx.heap.size wx w') := fun wx u hb hu hn => by
    rcases hLN with ⟨hc, rfl⟩ | ⟨hc, rfl⟩
    · refine (encode_good u h wx hu hn hc (HFR.out wx hb).1 (HFR.out wx hb).2.1).mono ?_
      rintro e w' ⟨mo, mc, rfl, ho, hb2⟩
      exact ⟨mo, mc, _, rfl, ho, hb2⟩
    · refine (encode_bad u h wx hu hb1 hb2 hb3 hc).mono ?_
      rintro e w' ⟨T, z, rfl, _, hb2⟩
      exact ⟨none, 0, _, rfl, World.ownsRow_nil _ _ _ _, hb2⟩
  have HDE : Hid (∀ wx, Hi.HasH wx v h → Calls Tryz.prog 12 #[.agg #[.slice v.no h.node.length v.nc, .slice v.uo h.upF.length v.uc, .slice v.ul h.up.length v.ulc, .slice v.wo h.dnF.length v.wc, .slice v.dl h.dn.length v.dlc]] wx fun e w' => ∃ (mo : Option Addr) (mc : Nat) (c1 : Int) (lo : Option Addr) (n1 lc : Nat), e = .returned (.tuple #[.slice mo L.length mc, .agg #[.int .i64 c1, .slice lo n1 lc]]) ∧ HasB w' (.slice mo L.length mc) L ∧ Below wx.heap.size wx w') := fun wx hx => by
    rcases hLN with ⟨hc, rfl⟩ | ⟨hc, rfl⟩
    · refine (docEncode_good v h wx hx hc).mono ?_
      rintro e w' ⟨mo, mc, rfl, ho, hb2⟩
      exact ⟨mo, mc, _, none, _, 0, rfl, ho, hb2⟩
    · refine (docEncode_bad v h wx hx hb1 hb2 hb3 hc).mono ?_
      rintro e w' ⟨lo, lc, rfl, _, hb2⟩
      exact ⟨none, 0, _, lo, _, lc, rfl, hasB_nilI _, hb2⟩
  have HKS : Hid (∀ wx (l : List Nat) ao ac bo bc, HasB wx (.slice ao l.length ac) l → HasB wx (.slice bo l.length bc) l → Calls Tryz.prog 9 #[.slice ao l.length ac, .slice bo l.length bc] wx fun e w' => e = .returned (.bool true) ∧ w' = wx) := fun wx l ao ac bo bc h1 h2 => kSame_calls ao bo ac bc l wx h1 h2
  have HSAh : Hid (∀ wx (a b : Hi.HV), Hi.HasH wx a h → Hi.HasH wx b h → Calls Tryz.prog 10 #[.agg #[.slice a.no h.node.length a.nc, .slice a.uo h.upF.length a.uc, .slice a.ul h.up.length a.ulc, .slice a.wo h.dnF.length a.wc, .slice a.dl h.dn.length a.dlc], .agg #[.slice b.no h.node.length b.nc, .slice b.uo h.upF.length b.uc, .slice b.ul h.up.length b.ulc, .slice b.wo h.dnF.length b.wc, .slice b.dl h.dn.length b.dlc]] wx fun e w' => e = .returned (.bool true) ∧ Below wx.heap.size wx w') := fun wx a b h1 h2 => by
    have q := Hi.tSame_calls a b h h wx h1 h2 HSHh.out
    rw [decide_eq_true rfl] at q
    exact q
  have HSAd : Hid (∀ wx (a b : Hi.HV), Hi.HasH wx a (dH x) → Hi.HasH wx b (dH x) → Calls Tryz.prog 10 #[.agg #[.slice a.no (dH x).node.length a.nc, .slice a.uo (dH x).upF.length a.uc, .slice a.ul (dH x).up.length a.ulc, .slice a.wo (dH x).dnF.length a.wc, .slice a.dl (dH x).dn.length a.dlc], .agg #[.slice b.no (dH x).node.length b.nc, .slice b.uo (dH x).upF.length b.uc, .slice b.ul (dH x).up.length b.ulc, .slice b.wo (dH x).dnF.length b.wc, .slice b.dl (dH x).dn.length b.dlc]] wx fun e w' => e = .returned (.bool true) ∧ Below wx.heap.size wx w') := fun wx a b h1 h2 => by
    have q := Hi.tSame_calls a b (dH x) (dH x) wx h1 h2 HDK.out.2
    rw [decide_eq_true rfl] at q
    exact q
  obtain ⟨iB, hi, hz0, hz1, hz2⟩ := infoB
  have hsz : (Tryz.prog.info? 5).map (·.size) = some 1 := by rw [hi]; simp [hz1]
  obtain ⟨z, hz⟩ : ∃ z, w.heap.size = z := ⟨_, rfl⟩
  have HZZ : Hid (w.heap.size = z ∧ W0.heap.size = z + 1) := ⟨hz, by rw [← hW0]; simp [hz]⟩
  obtain ⟨⟨c0, c1, c2, c3, c4⟩, l0, _⟩ := HX.out W0 (Below.refl _ _)
  clear hW0 hB0 hbx hH hr hf hg hty hb1 hb2 hb3 hLN hxl hxb hz0 hz
  generalize dH x = D at *
  unfold Hi.hvl
  go_enter Tryz.func3, Tryz.ntmps3
  go_upto_region 1 with fail
  rw [HW0.out]
  go_wp2_with fail
  refine HAW.out.mono ?_
  rintro e y1 ⟨rfl, hb⟩
  have Y1 : Hid (Below W0.heap.size W0 y1) := hb
  clear hb c0 c1 c2 c3 c4 l0
  obtain ⟨⟨c0, c1, c2, c3, c4⟩, l0, _⟩ := HX.out y1 Y1.out
  go_wp2_with fail
  refine (HGR.out y1).mono ?_
  rintro e y2 ⟨rfl, hb⟩
  have Y2 : Hid (Below W0.heap.size W0 y2) := btrI Y1.out hb
  clear hb c0 c1 c2 c3 c4 l0
  cases greatI h with
  | true =>
    go_wp2
    go_ret
    exact ⟨rfl, (HX.out y2 Y2.out).2.2⟩
  | false =>
    by_cases hbig : 100000 < x.length
    · have d1 : decide ((100000 : Int) < (x.length : Int)) = true := decide_eq_true (by omega)
      have d2 : decide (100000 < x.length) = true := decide_eq_true hbig
      go_wp2
      go_ret
      exact ⟨rfl, (HX.out y2 Y2.out).2.2⟩
    have HXS : Hid (x.length ≤ 100000) := (by omega : x.length ≤ 100000)
    have d1 : decide ((100000 : Int) < (x.length : Int)) = false := decide_eq_false (by omega)
    have d2 : decide (100000 < x.length) = false := decide_eq_false hbig
    obtain ⟨LX, hLX, hmx⟩ := make_roomB x.length 2 (by omega)
    have hmx' : ∀ w : World, (Instr.makeSlice 26 (.int .i64 (x.length : Int)) (.int .i64 ((x.length : Int) + 2))).run Tryz.prog w = .ok (.slice (some ⟨w.heap.size, 0, none⟩) x.length (x.length + 2)) (w.alloc (.cells LX.toArray 5)) := hmx
    have a1 : IntKind.i64.wrap ((x.length : Int) + 2) = (x.length : Int) + 2 := by rw [IntKind.wrap_i64] <;> omega
    have a2 : IntKind.i64.wrap ((x.length : Int) + 1) = (x.length : Int) + 1 := by rw [IntKind.wrap_i64] <;> omega
    have hxs : x.length ≤ 100000 := by omega
    clear hbig hmx
    go_wp2_with (first
      | (refine wpList_copy_splice rfl _ _ 26 26 rfl 5 Tryz.underlying26 hsz (some ⟨y2.heap.size, 0, none⟩) xo x.length (x.length + 2) x.length xc rfl rfl y2.heap.size 0 LX 5 (by show (y2.heap.push _)[y2.heap.size]? = _; simp) (bv x) (by rw [bv_len1]; exact (Nat.min_self _).symm) (fun h0 => ⟨rfl, hasB_src ((Below.refl _ y2).alloc (Nat.le_refl _) _) (HXB.out y2 Y2.out) h0⟩) (by rw [bv_len1, hLX]; omega) (bv_one x) y2.heap.size y2 ((Below.refl _ y2).alloc (Nat.le_refl _) _) (Nat.le_refl _) ?_; intro t2 hX hb2; have T2 : Hid (t2.heap[y2.heap.size]? = some (.cells (splice LX 0 (bv x)).toArray 5) ∧ Below y2.heap.size y2 t2) := ⟨hX.out, hb2⟩; clear hX hb2)
      | (at_builtin; refine wpList_append_own_spare _ rfl _ _ 26 rfl y2.heap.size 5 iB 1 Tryz.underlying26 hi hz1 y2.heap.size x.length (x.length + 2) (bv x) rfl (bown_alloc (bown_copied T2.out.1 hLX (by omega) (Nat.le_refl _)) _) ⟨t2.heap.size, 0, none⟩ 2 2 (bv [41, 42]) rfl rfl (hasB_cells (hasB_new t2 [41, 42] 2 (0, 0))) (bv_one _) (Nat.le_refl _) ?_; intro y3 hX hgr; have Y3 : Hid (y3.ownsRow y2.heap.size 5 1 (.slice (some ⟨y2.heap.size, 0, none⟩) (x.length + 2) (x.length + 2)) (x.length + 2) (bv (x ++ [41, 42])) ∧ Below y2.heap.size y2 y3) := ⟨by rw [bv_append]; exact hX, bbelow_g (T2.out.2.alloc T2.out.2.size _) hgr (fun k e => by cases e; exact Nat.le_refl _)⟩; clear hX hgr))
    generalize hXe : y2.heap.size = X at *
    have HXN : Hid (y2.heap.size = X ∧ z + 1 ≤ X) := ⟨hXe, by have := Y2.out.size; have := HZZ.out.2; omega⟩
    have HFU : Hid (∀ wx, Below y3.heap.size y3 wx → wx.ownsRow X 5 1 (.slice (some ⟨X, 0, none⟩) (x.length + 2) (x.length + 2)) (x.length + 2) (bv (x ++ [41, 42])) ∧ HasB wx (.slice (some ⟨X, 0, none⟩) x.length (x.length + 2)) x ∧ Below W0.heap.size W0 wx) := fun wx hx => by
      have q := bown_below Y3.out.1 hx
      have h1 := bown_cut q (m := x.length) (by omega)
      rw [List.take_left] at h1
      refine ⟨q, hasB_own h1, btrI Y2.out (btrI ?_ hx)⟩
      rw [hXe]
      exact Y3.out.2
    have HXL : Hid (X < y3.heap.size) := (Y3.out.1.lt X rfl).2
    clear hXe hmx' hLX T2
    refine (HDA.out y3 (some ⟨X, 0, none⟩) (x.length + 2) HXS.out (HFU.out y3 (Below.refl _ _)).2.2 (HFU.out y3 (Below.refl _ _)).2.1 (by omega)).mono ?_
    rintro e y4 ⟨ua, v4, rfl, ho4, hb, hap⟩
    have Y4 : Hid (Hi.OwnH y4 y3.heap.size ua D ∧ Below y3.heap.size y3 y4 ∧ Ap3 ua) := ⟨ho4, hb, hap⟩
    clear ho4 hb hap
    obtain ⟨pa, hbz⟩ : ∃ pa, y4.heap.size = pa := ⟨_, rfl⟩
    obtain ⟨V4, hV4⟩ : ∃ V4, y4.alloc (.cells #[.slice ua.no D.node.length ua.nc, .slice ua.uo D.upF.length ua.uc, .slice ua.ul D.up.length ua.ulc, .slice ua.wo D.dnF.length ua.wc, .slice ua.dl D.dn.length ua.dlc] 25) = V4 := ⟨_, rfl⟩
    have bV4 : Below y4.heap.size y4 V4 := by rw [← hV4]; exact (Below.refl _ _).alloc (Nat.le_refl _) _
    have nV4 : V4.heap[pa]? = some (.cells #[.slice ua.no D.node.length ua.nc, .slice ua.uo D.upF.length ua.uc, .slice ua.ul D.up.length ua.ulc, .slice ua.wo D.dnF.length ua.wc, .slice ua.dl D.dn.length ua.dlc] 25) := by rw [← hV4, ← hbz]; exact heap_new _ _
    have HB_pa : Hid (∀ wx, Below V4.heap.size V4 wx → wx.heap[pa]? = some (.cells #[.slice ua.no D.node.length ua.nc, .slice ua.uo D.upF.length ua.uc, .slice ua.ul D.up.length ua.ulc, .slice ua.wo D.dnF.length ua.wc, .slice ua.dl D.dn.length ua.dlc] 25) ∧ Below y4.heap.size y4 wx) := fun wx hx => ⟨(hx.block _ (w_lt_get nV4)).trans nV4, btrI bV4 hx⟩
    have HS_pa : Hid (y4.heap.size = pa ∧ pa < V4.heap.size) := ⟨hbz, w_lt_get nV4⟩
    have HV4 : Hid (y4.alloc (.cells #[.slice ua.no D.node.length ua.nc, .slice ua.uo D.upF.length ua.uc, .slice ua.ul D.up.length ua.ulc, .slice ua.wo D.dnF.length ua.wc, .slice ua.dl D.dn.length ua.dlc] 25) = V4 ∧ y4.heap.size = pa) := ⟨hV4, hbz⟩
    clear hV4 hbz bV4 nV4
    go_upto_region 9 with fail
    rw [HV4.out.1]
    rw [HV4.out.2]
    go_wp2_with fail
    refine (HDA.out V4 (some ⟨X, 0, none⟩) (x.length + 2) HXS.out (HFU.out V4 (btrI Y4.out.2.1 (HB_pa.out V4 (Below.refl _ _)).2)).2.2 (HFU.out V4 (btrI Y4.out.2.1 (HB_pa.out V4 (Below.refl _ _)).2)).2.1 (by omega)).mono ?_
    rintro e y5 ⟨ub, v5, rfl, ho5, hb, hap⟩
    have Y5 : Hid (Hi.OwnH y5 V4.heap.size ub D ∧ Below V4.heap.size V4 y5) := ⟨ho5, hb⟩
    clear ho5 hb hap
    obtain ⟨pb, hbz⟩ : ∃ pb, y5.heap.size = pb := ⟨_, rfl⟩
    obtain ⟨V5, hV5⟩ : ∃ V5, y5.alloc (.cells #[.slice ub.no D.node.length ub.nc, .slice ub.uo D.upF.length ub.uc, .slice ub.ul D.up.length ub.ulc, .slice ub.wo D.dnF.length ub.wc, .slice ub.dl D.dn.length ub.dlc] 25) = V5 := ⟨_, rfl⟩
    have bV5 : Below y5.heap.size y5 V5 := by rw [← hV5]; exact (Below.refl _ _).alloc (Nat.le_refl _) _
    have nV5 : V5.heap[pb]? = some (.cells #[.slice ub.no D.node.length ub.nc, .slice ub.uo D.upF.length ub.uc, .slice ub.ul D.up.length ub.ulc, .slice ub.wo D.dnF.length ub.wc, .slice ub.dl D.dn.length ub.dlc] 25) := by rw [← hV5, ← hbz]; exact heap_new _ _
    have HB_pb : Hid (∀ wx, Below V5.heap.size V5 wx → wx.heap[pb]? = some (.cells #[.slice ub.no D.node.length ub.nc, .slice ub.uo D.upF.length ub.uc, .slice ub.ul D.up.length ub.ulc, .slice ub.wo D.dnF.length ub.wc, .slice ub.dl D.dn.length ub.dlc] 25) ∧ Below y5.heap.size y5 wx) := fun wx hx => ⟨(hx.block _ (w_lt_get nV5)).trans nV5, btrI bV5 hx⟩
    have HS_pb : Hid (y5.heap.size = pb ∧ pb < V5.heap.size) := ⟨hbz, w_lt_get nV5⟩
    have HV5 : Hid (y5.alloc (.cells #[.slice ub.no D.node.length ub.nc, .slice ub.uo D.upF.length ub.uc, .slice ub.ul D.up.length ub.ulc, .slice ub.wo D.dnF.length ub.wc, .slice ub.dl D.dn.length ub.dlc] 25) = V5 ∧ y5.heap.size = pb) := ⟨hV5, hbz⟩
    clear hV5 hbz bV5 nV5
    go_upto_region 10 with fail
    rw [HV5.out.1]
    rw [HV5.out.2]
    have B3 : Hid (∀ wx, Below V5.heap.size V5 wx → Below V4.heap.size V4 wx ∧ Below y3.heap.size y3 wx ∧ Below W0.heap.size W0 wx) := fun wx hx => by
      have q4 : Below V4.heap.size V4 wx := btrI Y5.out.2 (HB_pb.out wx hx).2
      have q3 : Below y3.heap.size y3 wx := btrI Y4.out.2.1 (HB_pa.out wx q4).2
      exact ⟨q4, q3, (HFU.out wx q3).2.2⟩
    obtain ⟨⟨c0, c1, c2, c3, c4⟩, l0, _⟩ := HX.out V5 (B3.out V5 (Below.refl _ _)).2.2
    go_wp2_with fail
    refine (HTW.out V5 (B3.out V5 (Below.refl _ _)).2.2).mono ?_
    rintro e y6 ⟨uk, rfl, ho6, hb⟩
    have Y6 : Hid (Hi.OwnH y6 V5.heap.size uk h ∧ Below V5.heap.size V5 y6) := ⟨ho6, hb⟩
    clear ho6 hb c0 c1 c2 c3 c4 l0
    obtain ⟨pk, hbz⟩ : ∃ pk, y6.heap.size = pk := ⟨_, rfl⟩
    obtain ⟨V6, hV6⟩ : ∃ V6, y6.alloc (.cells #[.slice uk.no h.node.length uk.nc, .slice uk.uo h.upF.length uk.uc, .slice uk.ul h.up.length uk.ulc, .slice uk.wo h.dnF.length uk.wc, .slice uk.dl h.dn.length uk.dlc] 25) = V6 := ⟨_, rfl⟩
    have bV6 : Below y6.heap.size y6 V6 := by rw [← hV6]; exact (Below.refl _ _).alloc (Nat.le_refl _) _
    have nV6 : V6.heap[pk]? = some (.cells #[.slice uk.no h.node.length uk.nc, .slice uk.uo h.upF.length uk.uc, .slice uk.ul h.up.length uk.ulc, .slice uk.wo h.dnF.length uk.wc, .slice uk.dl h.dn.length uk.dlc] 25) := by rw [← hV6, ← hbz]; exact heap_new _ _
    have HB_pk : Hid (∀ wx, Below V6.heap.size V6 wx → wx.heap[pk]? = some (.cells #[.slice uk.no h.node.length uk.nc, .slice uk.uo h.upF.length uk.uc, .slice uk.ul h.up.length uk.ulc, .slice uk.wo h.dnF.length uk.wc, .slice uk.dl h.dn.length uk.dlc] 25) ∧ Below y6.heap.size y6 wx) := fun wx hx => ⟨(hx.block _ (w_lt_get nV6)).trans nV6, btrI bV6 hx⟩
    have HS_pk : Hid (y6.heap.size = pk ∧ pk < V6.heap.size) := ⟨hbz, w_lt_get nV6⟩
    have HV6 : Hid (y6.alloc (.cells #[.slice uk.no h.node.length uk.nc, .slice uk.uo h.upF.length uk.uc, .slice uk.ul h.up.length uk.ulc, .slice uk.wo h.dnF.length uk.wc, .slice uk.dl h.dn.length uk.dlc] 25) = V6 ∧ y6.heap.size = pk) := ⟨hV6, hbz⟩
    clear hV6 hbz bV6 nV6
    go_upto_region 11 with fail
    rw [HV6.out.1]
    rw [HV6.out.2]
    have B6 : Hid (∀ wx, Below V6.heap.size V6 wx → Below V5.heap.size V5 wx ∧ Hi.HasH wx uk h) := fun wx hx => ⟨btrI Y6.out.2 (HB_pk.out wx hx).2, hasH_own (Y6.out.1.grow (HB_pk.out wx hx).2) HOKh.out⟩
    have HN6 : Hid (NilH uk) := nil_own Y6.out.1
    obtain ⟨c0, c1, c2, c3, c4⟩ := Hi.five_cells (HB_pk.out V6 (Below.refl _ _)).1
    have l0 := w_lt_get (HB_pk.out V6 (Below.refl _ _)).1
    go_wp2_with fail
    refine (HEN.out V6 uk (B3.out V6 (B6.out V6 (Below.refl _ _)).1).2.2 (B6.out V6 (Below.refl _ _)).2 HN6.out).mono ?_
    rintro e y7 ⟨po, pc, v7, rfl, ho7, hb⟩
    have Y7 : Hid (y7.ownsRow V6.heap.size 5 1 (.slice po L.length pc) L.length (bv L) ∧ Below V6.heap.size V6 y7) := ⟨ho7, hb⟩
    clear ho7 hb c0 c1 c2 c3 c4 l0
    obtain ⟨c0, c1, c2, c3, c4⟩ := Hi.five_cells (HB_pk.out y7 Y7.out.2).1
    have l0 := w_lt_get (HB_pk.out y7 Y7.out.2).1
    go_wp2_with fail
    refine (HEN.out y7 uk (B3.out y7 (B6.out y7 Y7.out.2).1).2.2 (B6.out y7 Y7.out.2).2 HN6.out).mono ?_
    rintro e y8 ⟨qo, qc, v8, rfl, ho8, hb⟩
    have Y8 : Hid (y8.ownsRow y7.heap.size 5 1 (.slice qo L.length qc) L.length (bv L) ∧ Below y7.heap.size y7 y8) := ⟨ho8, hb⟩
    clear ho8 hb c0 c1 c2 c3 c4 l0
    have C8 : Hid (Below V6.heap.size V6 y8) := btrI Y7.out.2 Y8.out.2
    have F8 : Hid (Below y3.heap.size y3 y8) := (B3.out y8 (B6.out y8 C8.out).1).2.1
    have hs1 : ∀ wx, (Instr.slice 26 (.slice (some ⟨X, 0, none⟩) (x.length + 2) (x.length + 2)) none (some (.int .i64 (x.length : Int))) none).run Tryz.prog wx = .ok (.slice (some ⟨X, 0, none⟩) x.length (x.length + 2)) wx := fun wx => slice_uptoB X 0 (x.length + 2) (x.length + 2) x.length (by omega) (by omega) wx
    go_wp2_with fail
    refine (HKS.out y8 x (some ⟨X, 0, none⟩) (x.length + 2) xo xc (HFU.out y8 F8.out).2.1 (HXB.out y8 (HFU.out y8 F8.out).2.2)).mono ?_
    rintro e y9 ⟨rfl, hw9⟩
    have hw9' := hw9.symm
    clear hw9
    subst hw9'
    obtain ⟨g9, c9, hv9, _, hXl, _, hcl⟩ := bown_at (HFU.out y8 F8.out).1 (by omega)
    injection hv9 with hv9 hv8 hv7
    injection hv9 with hv9
    injection hv9 with hv9
    subst hv9
    clear hv8 hv7 c9
    have k41 := hcl x.length 41 (by rw [List.getElem?_append_right (Nat.le_refl _)]; simp)
    have k42 := hcl (x.length + 1) 42 (by rw [List.getElem?_append_right (by omega)]; simp)
    clear hcl
    obtain ⟨c0, c1, c2, c3, c4⟩ := Hi.five_cells (HB_pk.out y8 C8.out).1
    have l0 := w_lt_get (HB_pk.out y8 C8.out).1
    obtain ⟨⟨e0, e1, e2, e3, e4⟩, l1, _⟩ := HX.out y8 (B3.out y8 (B6.out y8 C8.out).1).2.2
    go_wp2_with fail
    refine (HSAh.out y8 uk v (B6.out y8 C8.out).2 (HV.out y8 (B3.out y8 (B6.out y8 C8.out).1).2.2)).mono ?_
    rintro e Z ⟨rfl, hb⟩
    have B8 : Hid (Below y8.heap.size y8 Z) := hb
    clear hb c0 c1 c2 c3 c4 l0 e0 e1 e2 e3 e4 l1 k41 k42 hXl hs1
    have HNN : Hid (z + 1 ≤ X ∧ X < y3.heap.size ∧ y3.heap.size ≤ pa ∧ pa < V4.heap.size ∧ V4.heap.size ≤ pb ∧ pb < V5.heap.size ∧ V5.heap.size ≤ pk ∧ pk < V6.heap.size ∧ V6.heap.size ≤ y7.heap.size ∧ y7.heap.size ≤ y8.heap.size ∧ y8.heap.size ≤ Z.heap.size) := by
      have q1 := HXN.out.2
      have q2 := HXL.out
      have q3 := Y4.out.2.1.size
      have q4 := HS_pa.out
      have q5 := Y5.out.2.size
      have q6 := HS_pb.out
      have q7 := Y6.out.2.size
      have q8 := HS_pk.out
      have q9 := Y7.out.2.size
      have qa := Y8.out.2.size
      have qb := B8.out.size
      show _ ∧ _ ∧ _ ∧ _ ∧ _ ∧ _ ∧ _ ∧ _ ∧ _ ∧ _ ∧ _
      omega
    obtain ⟨PP, hPP⟩ : ∃ PP : Nat → Prop, PP = fun k => k = X ∨ (y3.heap.size ≤ k ∧ k < pa) ∨ (V6.heap.size ≤ k ∧ k < y7.heap.size) := ⟨_, rfl⟩
    have HPX : Hid (PP X) := by rw [hPP]; exact Or.inl rfl
    have HPA : Hid (∀ k, Hi.Blk ua D k → PP k) := fun k hk => by
      have q1 := Y4.out.1.blk hk
      have q2 := HS_pa.out.1
      rw [hPP]
      exact .inr (.inl ⟨q1.1, by omega⟩)
    have HPP : Hid (∀ k, (Value.slice po L.length pc).ownBlock = some k → PP k) := fun k hk => by
      rw [hPP]
      exact .inr (.inr (Y7.out.1.lt k hk))
    have HSF : Hid ((∀ k, k ≤ z → ¬ PP k) ∧ ¬ PP pa ∧ ¬ PP pb ∧ (∀ k, Hi.Blk ub D k → ¬ PP k) ∧ (∀ k, (Value.slice qo L.length qc).ownBlock = some k → ¬ PP k) ∧ ∀ k, Z.heap.size ≤ k → ¬ PP k) := by
      have q := HNN.out
      have q2 := HS_pb.out.1
      rw [hPP]
      refine ⟨fun k hk => ?_, ?_, ?_, fun k hk => ?_, fun k hk => ?_, fun k hk => ?_⟩
      · omega
      · omega
      · omega
      · have := Y5.out.1.blk hk
        omega
      · have := Y8.out.1.lt k hk
        omega
      · omega
    clear hPP
    have HZ9 : Hid (Z.heap[pa]? = some (.cells #[.slice ua.no D.node.length ua.nc, .slice ua.uo D.upF.length ua.uc, .slice ua.ul D.up.length ua.ulc, .slice ua.wo D.dnF.length ua.wc, .slice ua.dl D.dn.length ua.dlc] 25) ∧ Z.heap[pb]? = some (.cells #[.slice ub.no D.node.length ub.nc, .slice ub.uo D.upF.length ub.uc, .slice ub.ul D.up.length ub.ulc, .slice ub.wo D.dnF.length ub.wc, .slice ub.dl D.dn.length ub.dlc] 25) ∧ Z.heap[w.heap.size]? = some (.cells #[.slice v.no h.node.length v.nc, .slice v.uo h.upF.length v.uc, .slice v.ul h.up.length v.ulc, .slice v.wo h.dnF.length v.wc, .slice v.dl h.dn.length v.dlc] 25) ∧ Hi.OwnH Z y3.heap.size ua D ∧ Hi.OwnH Z V4.heap.size ub D ∧ Z.ownsRow V6.heap.size 5 1 (.slice po L.length pc) L.length (bv L) ∧ Z.ownsRow y7.heap.size 5 1 (.slice qo L.length qc) L.length (bv L) ∧ Z.ownsRow X 5 1 (.slice (some ⟨X, 0, none⟩) (x.length + 2) (x.length + 2)) (x.length + 2) (bv (x ++ [41, 42])) ∧ HasB Z (.slice xo x.length xc) x ∧ Hi.HasH Z v h ∧ Below w.heap.size w Z) := by
      have b8 := B8.out
      have b7 : Below y7.heap.size y7 Z := btrI Y8.out.2 b8
      have b6 : Below V6.heap.size V6 Z := btrI Y7.out.2 b7
      have b5 : Below V5.heap.size V5 Z := (B6.out Z b6).1
      obtain ⟨b4, b3, b0⟩ := B3.out Z b5
      have bx := HX.out Z b0
      refine ⟨(HB_pa.out Z b4).1, (HB_pb.out Z b5).1, HXZ.out Z b0, Y4.out.1.grow (HB_pa.out Z b4).2, Y5.out.1.grow (HB_pb.out Z b5).2, bown_below Y7.out.1 b7, bown_below Y8.out.1 b8, (HFU.out Z b3).1, HXB.out Z b0, HV.out Z b0, bx.2.2⟩
    have HF : Hid (∀ wx, Hi.FR PP Z wx → wx.heap[pa]? = some (.cells #[.slice ua.no D.node.length ua.nc, .slice ua.uo D.upF.length ua.uc, .slice ua.ul D.up.length ua.ulc, .slice ua.wo D.dnF.length ua.wc, .slice ua.dl D.dn.length ua.dlc] 25) ∧ wx.heap[pb]? = some (.cells #[.slice ub.no D.node.length ub.nc, .slice ub.uo D.upF.length ub.uc, .slice ub.ul D.up.length ub.ulc, .slice ub.wo D.dnF.length ub.wc, .slice ub.dl D.dn.length ub.dlc] 25) ∧ wx.heap[w.heap.size]? = some (.cells #[.slice v.no h.node.length v.nc, .slice v.uo h.upF.length v.uc, .slice v.ul h.up.length v.ulc, .slice v.wo h.dnF.length v.wc, .slice v.dl h.dn.length v.dlc] 25) ∧ Hi.HasH wx ub D ∧ HasB wx (.slice qo L.length qc) L ∧ HasB wx (.slice xo x.length xc) x ∧ Hi.HasH wx v h ∧ Below w.heap.size w wx) := fun wx hx => by
      obtain ⟨f1, f2, f3, f4, f5, f6, f7, f8, f9, fa, fb⟩ := HZ9.out
      obtain ⟨s1, s2, s3, s4, s5, s6⟩ := HSF.out
      have sf : ∀ {k : Nat} {o : Obj}, Z.heap[k]? = some o → ¬ PP k → wx.heap[k]? = some o := fun hk hn => (hx.safe _ (Hi.some_lt hk) hn).trans hk
      have hbw : Below w.heap.size w wx := ⟨hx.os.trans fb.os, hx.tape.trans fb.tape, hx.output.trans fb.output, Nat.le_trans fb.size hx.size, fun k hk => (hx.safe k (Nat.lt_of_lt_of_le hk fb.size) (s1 k (by have := HZZ.out.1; omega))).trans (fb.block k hk)⟩
      refine ⟨sf f1 s2, sf f2 s3, sf f3 (s1 _ (by have := HZZ.out.1; omega)), ?_, ?_, ?_, ?_, hbw⟩
      · exact hasH_own (f5.safe fun k hk => hx.safe k (f5.blk hk).2 (s4 k hk)) HDK.out.1
      · exact hasB_own (bown_keep f7 fun k hk => hx.safe k (f7.lt k hk).2 (s5 k hk))
      · exact HXW.out wx hbw
      · exact HVW.out wx hbw
    have HLS : Hid (∀ wx, Hi.FR PP Z wx → Hi.Loose wx 5 1 (.slice (some ⟨X, 0, none⟩) (x.length + 2) (x.length + 2)) (x.length + 2) ∧ Hi.Loose wx 5 1 (.slice po L.length pc) L.length ∧ (∀ i, i < 3 → Hi.Loose wx 39 1 (.slice (row3 ua D i).1 (row3 ua D i).2.1 (row3 ua D i).2.2) (row3 ua D i).2.1) ∧ Hi.Loose wx 43 4 (.slice ua.ul D.up.length ua.ulc) D.up.length ∧ Hi.Loose wx 43 4 (.slice ua.dl D.dn.length ua.dlc) D.dn.length) := fun wx hx => by
      obtain ⟨f1, f2, f3, f4, f5, f6, f7, f8, f9, fa, fb⟩ := HZ9.out
      refine ⟨(Hi.loose_of f8).shp hx.shp, (Hi.loose_of f6).shp hx.shp, fun i hi => ?_, (Hi.loose_of f4.up).shp hx.shp, (Hi.loose_of f4.dn).shp hx.shp⟩
      match i, hi with
      | 0, _ => exact (Hi.loose_of f4.node).shp hx.shp
      | 1, _ => exact (Hi.loose_of f4.upF).shp hx.shp
      | 2, _ => exact (Hi.loose_of f4.dnF).shp hx.shp
    have HRB : Hid (∀ i, i < 3 → (∀ b, (Value.slice (row3 ua D i).1 (row3 ua D i).2.1 (row3 ua D i).2.2).ownBlock = some b → PP b) ∧ (row3 ua D i).2.1 ≤ 65537) := fun i hi => by
      obtain ⟨q1, q2, q3, _, _⟩ := HFW.out
      match i, hi with
      | 0, _ => exact ⟨fun b e => HPA.out b (.inl e), q1⟩
      | 1, _ => exact ⟨fun b e => HPA.out b (.inr (.inl e)), q2⟩
      | 2, _ => exact ⟨fun b e => HPA.out b (.inr (.inr (.inr (.inl e)))), q3⟩
    have HAP : Hid (Ap3 ua) := Y4.out.2.2
    have HXS2 : x.length ≤ 100000 := HXS.out
    have HL2 : L.length ≤ 100000000 := HLL.out
    have HFZ : Hid (Hi.FR PP Z Z) := Hi.FR.refl _ _
    clear Y1 Y2 Y3 Y4 Y5 Y6 Y7 Y8 B3 B6 B8 C8 F8 HFU HB_pa HB_pb HB_pk HS_pa HS_pb HS_pk HV4 HV5 HV6 HN6 HXL HXN HTW HEN HDA HSAh HX HV HFR HAW HGR HXB hsz hi hz1 hz2 hxs d1 d2 a1
    have hN3 : x.length + 2 ≤ 100002 := by omega
    clear HZ9
    generalize x.length + 2 = N2 at *
    go_wp2_with fail
    go_loopw [108] (fun iv wr => ∃ i : Nat, i ≤ N2 ∧ iv = .int .i64 (i : Int) ∧ Hid (Hi.FR PP Z wr)) (fun iv _ => N2 - (intOf iv).toNat)
    case atStart => exact ⟨0, Nat.zero_le _, rfl, HFZ.out⟩
    case round =>
      obtain ⟨i, hi, rfl, HG⟩ := hrel
      rcases Nat.lt_or_eq_of_le hi with h1 | h1
      · obtain ⟨b, hso, hw⟩ := (HLS.out wr HG.out).1.at (by omega)
        injection hso with hso
        injection hso with hso
        subst hso
        obtain ⟨⟨v0, k0⟩, f0⟩ := hw i (by omega)
        have j1 : (0 : Int) ≤ (i : Int) := by omega
        have j2 : (i : Int) < (N2 : Int) := by omega
        have HST : Hid (Hi.FR PP Z (wr.setCell ⟨X, i, none⟩ (.int .u8 238))) := HG.out.store HPX.out _ _
        clear hw
        go_wp2
        go_roundw
        case rel => exact ⟨i + 1, by omega, by go_num, HST.out⟩
        case measure => simp [intOf]; omega
      · subst h1
        have q6 : decide ((i : Int) < (i : Int)) = false := by simp
        have HG1 : Hid (Hi.FR PP Z wr) := HG.out
        clear HG
        go_wp2_with fail
        generalize hW : wr = W1 at *
        clear hW
        go_loopw [117] (fun jv wr => ∃ j : Nat, j ≤ L.length ∧ jv = .int .i64 (j : Int) ∧ Hid (Hi.FR PP Z wr)) (fun jv _ => L.length - (intOf jv).toNat)
        case atStart => exact ⟨0, Nat.zero_le _, rfl, HG1.out⟩
        case round =>
          obtain ⟨j, hj, rfl, HG⟩ := hrel
          rcases Nat.lt_or_eq_of_le hj with h2 | h2
          · obtain ⟨b, hso, hw⟩ := (HLS.out wr HG.out).2.1.at (by omega)
            obtain ⟨⟨v0, k0⟩, f0⟩ := hw j (by omega)
            have j1 : (0 : Int) ≤ (j : Int) := by omega
            have j2 : (j : Int) < (L.length : Int) := by omega
            have HST : Hid (Hi.FR PP Z (wr.setCell ⟨b, j, none⟩ (.int .u8 221))) := HG.out.store (HPP.out b (by rw [hso]; rfl)) _ _
            subst hso
            clear hw
            go_wp2
            go_roundw
            case rel => exact ⟨j + 1, by omega, by go_num, HST.out⟩
            case measure => simp [intOf]; omega
          · have q6 : decide ((j : Int) < (L.length : Int)) = false := decide_eq_false (by omega)
            have q7 : decide (j < L.length) = false := decide_eq_false (by omega)
            have HG2 : Hid (Hi.FR PP Z wr) := HG.out
            clear HG HG1
            obtain ⟨c0, c1, c2, c3, c4⟩ := Hi.five_cells (HF.out wr HG2.out).1
            have l0 := w_lt_get (HF.out wr HG2.out).1
            obtain ⟨r0, hr0⟩ : ∃ r, wr.heap.size = r := ⟨_, rfl⟩
            obtain ⟨Z3, hZ3⟩ : ∃ Z3, wr.alloc (.cells #[.slice ua.no D.node.length ua.nc, .slice ua.uo D.upF.length ua.uc, .slice ua.wo D.dnF.length ua.wc] 22) = Z3 := ⟨_, rfl⟩
            have HZ3 : Hid (wr.alloc (.cells #[.slice ua.no D.node.length ua.nc, .slice ua.uo D.upF.length ua.uc, .slice ua.wo D.dnF.length ua.wc] 22) = Z3) := hZ3
            have hbs := Hi.build_three32 ua.no ua.uo ua.wo D.node.length D.upF.length D.dnF.length ua.nc ua.uc ua.wc
            have HZ4 : Hid (Z3.heap[r0]? = some (.cells #[.slice ua.no D.node.length ua.nc, .slice ua.uo D.upF.length ua.uc, .slice ua.wo D.dnF.length ua.wc] 22) ∧ Hi.FR PP Z Z3 ∧ r0 < Z3.heap.size ∧ Z.heap.size ≤ r0) := by
              have g1 : Z3.heap[r0]? = some (.cells #[.slice ua.no D.node.length ua.nc, .slice ua.uo D.upF.length ua.uc, .slice ua.wo D.dnF.length ua.wc] 22) := by rw [← hZ3, ← hr0]; exact heap_new _ _
              exact ⟨g1, HG2.out.below (by rw [← hZ3]; exact (Below.refl _ _).alloc (Nat.le_refl _) _), w_lt_get g1, by have := HG2.out.size; omega⟩
            have HROW : Hid (∀ wx i, Hi.FR PP Z3 wx → i < 3 → wx.cell? ⟨r0, i, none⟩ = some (.slice (row3 ua D i).1 (row3 ua D i).2.1 (row3 ua D i).2.2)) := fun wx i hx hi => by
              have hr := (hx.safe r0 HZ4.out.2.2.1 (HSF.out.2.2.2.2.2 r0 HZ4.out.2.2.2)).trans HZ4.out.1
              match i, hi with
              | 0, _ => simp [World.cell?, hr, row3]
              | 1, _ => simp [World.cell?, hr, row3]
              | 2, _ => simp [World.cell?, hr, row3]
            have HFZ3 : Hid (Hi.FR PP Z3 Z3) := Hi.FR.refl _ _
            obtain ⟨i0, hi9, hzz⟩ := Option.map_eq_some_iff.1 Hi.infoWs
            simp only [Prod.mk.injEq] at hzz
            have HI : Hid (Tryz.prog.info? 39 = some i0 ∧ i0.zero = some (.int .u32 0) ∧ i0.size = 1 ∧ i0.bytes = 4) := ⟨hi9, hzz⟩
            clear hZ3 hi9 hzz h2 hj
            go_wp2_with fail
            rw [HZ3.out]
            clear HZ3 hr0 hbs c0 c1 c2 c3 c4 l0 q6 q7
            generalize hW : wr = W5 at *
            clear hW
            go_loopw [132] (fun iv wr => ∃ i : Nat, i ≤ 3 ∧ iv = .int .i64 (i : Int) ∧ Hid (Hi.FR PP Z3 wr) ∧ Hid (Sev ua D i wr)) (fun iv _ => 3 - (intOf iv).toNat)
            case atStart => exact ⟨0, Nat.zero_le _, rfl, HFZ3.out, fun k b j hk => absurd hk (by omega)⟩
            case round =>
              obtain ⟨i, hi, rfl, HG, HS⟩ := hrel
              rcases Nat.lt_or_eq_of_le hi with h1 | h1
              · have ck := HROW.out wr i HG.out h1
                have hlo := (HLS.out wr (HZ4.out.2.1.trans HG.out)).2.2.1 i h1
                obtain ⟨hpp, hnb⟩ := HRB.out i h1
                have HI3 : Hid (i < 3) := h1
                obtain ⟨so, n, sc, hR⟩ : ∃ so n sc, row3 ua D i = (so, n, sc) := ⟨_, _, _, rfl⟩
                rw [hR] at ck hlo hpp hnb
                simp only at ck hlo hpp hnb
                have HR : Hid (row3 ua D i = (so, n, sc)) := hR
                have i1 : (0 : Int) ≤ (i : Int) := by omega
                have i2 : (i : Int) < 3 := by omega
                have HLL : Hid (Hi.Loose wr 39 1 (.slice so n sc) n ∧ ∀ b, (Value.slice so n sc).ownBlock = some b → PP b) := ⟨hlo, hpp⟩
                clear hlo hpp hR
                go_wp2_with fail
                generalize hW : wr = W6 at *
                clear hW
                go_loopw [138] (fun jv wq => ∃ j : Nat, j ≤ n ∧ jv = .int .i64 (j : Int) ∧ Hid (Hi.FR PP Z3 wq) ∧ Hid (Hi.Loose wq 39 1 (.slice so n sc) n) ∧ Hid (Sev ua D i wq) ∧ Hid (Pre7 so j wq)) (fun jv _ => n - (intOf jv).toNat)
                case atStart => exact ⟨0, Nat.zero_le _, rfl, HG.out, HLL.out.1, HS.out, fun b q _ hq => absurd hq (by omega)⟩
                case round =>
                  obtain ⟨j, hj, rfl, HQ1, HQ2, HQ3, HQ4⟩ := hrel
                  rcases Nat.lt_or_eq_of_le hj with h2 | h2
                  · obtain ⟨b, hso, hw⟩ := HQ2.out.at (by omega)
                    obtain ⟨⟨v0, k0⟩, f0⟩ := hw j (by omega)
                    have j1 : (0 : Int) ≤ (j : Int) := by omega
                    have j2 : (j : Int) < (n : Int) := by omega
                    have HST : Hid (Hi.FR PP Z3 (wr.setCell ⟨b, j, none⟩ (.int .u32 7777)) ∧ Hi.Loose (wr.setCell ⟨b, j, none⟩ (.int .u32 7777)) 39 1 (.slice so n sc) n ∧ Sev ua D i (wr.setCell ⟨b, j, none⟩ (.int .u32 7777)) ∧ Pre7 so (j + 1) (wr.setCell ⟨b, j, none⟩ (.int .u32 7777))) := ⟨HQ1.out.store (HLL.out.2 b (by rw [hso]; rfl)) _ _, HQ2.out.shp (Hi.Shp.store _ _ _ _), HQ3.out.set HAP.out HI3.out (by rw [HR.out]; exact hso) _, HQ4.out.set hso k0⟩
                    subst hso
                    clear hw
                    go_wp2
                    go_roundw
                    case rel => exact ⟨j + 1, by omega, by go_num, HST.out.1, HST.out.2.1, HST.out.2.2.1, HST.out.2.2.2⟩
                    case measure => simp [intOf]; omega
                  · obtain rfl : j = n := h2
                    have hw2 : IntKind.i64.wrap ((j : Int) + 2) = (j : Int) + 2 := by rw [IntKind.wrap_i64]; omega
                    have q6 : decide ((j : Int) < (j : Int)) = false := by simp
                    go_wp2_with (at_builtin; refine Hi.wpList_append_kept _ rfl _ _ 22 rfl 39 i0 (.int .u32 0) 1 4 Tryz.underlying22 HI.out.1 HI.out.2.1 HI.out.2.2.1 HI.out.2.2.2 rfl (by decide) _ j rfl (HQ2.out.shp (Hi.Shp.below ((Below.refl _ _).alloc (Nat.le_refl _) _))) ⟨wr.heap.size, 0, none⟩ 2 2 [.int .u32 1, .int .u32 2] rfl rfl (Hi.new_cells wr [.int .u32 1, .int .u32 2] 39) (by simp [Value.oneCell']) (by unfold maxLen; omega) (by omega) ?_; intro v5 w5 hv5 hgr5 hsh5 hk5; have H5 : Hid (Hi.FR PP Z3 w5 ∧ Sev ua D (i + 1) w5) := ⟨(HQ1.out.below ((Below.refl _ _).alloc (Nat.le_refl _) _)).grown hgr5 (fun k e => HLL.out.2 k e) hsh5, Sev.step (sc := sc) (HQ3.out.keep ((Below.refl _ wr).alloc (Nat.le_refl _) (.cells #[.int .u32 1, .int .u32 2] 39))) (by rw [HR.out]; exact pre7_keep HQ4.out ((Below.refl _ wr).alloc (Nat.le_refl _) _)) HAP.out HI3.out (by rw [HR.out]; exact hk5)⟩; clear hgr5 hsh5 hk5; obtain ⟨lo5, c5, hv5⟩ := hv5; subst hv5)
                    exact ⟨⟨i + 1, by have := HI3.out; omega, by rw [show (i : Int) + 1 = ((i + 1 : Nat) : Int) by omega], H5.out.1, H5.out.2⟩, by have := HI3.out; simp only [intOf]; omega⟩
              · subst h1
                have q6 : decide ((3 : Int) < 3) = false := by decide
                have HG3 : Hid (Hi.FR PP Z wr) := HZ4.out.2.1.trans HG.out
                have HS3 : Hid (Sev ua D 3 wr) := HS.out
                clear HG HS
                obtain ⟨c0, c1, c2, c3, c4⟩ := Hi.five_cells (HF.out wr HG3.out).1
                have l0 := w_lt_get (HF.out wr HG3.out).1
                obtain ⟨r1, hr1⟩ : ∃ r, wr.heap.size = r := ⟨_, rfl⟩
                obtain ⟨Z5, hZ5⟩ : ∃ Z5, wr.alloc (.cells #[.slice ua.no D.node.length ua.nc, .slice ua.uo D.upF.length ua.uc, .slice ua.wo D.dnF.length ua.wc] 22) = Z5 := ⟨_, rfl⟩
                have HZ5 : Hid (wr.alloc (.cells #[.slice ua.no D.node.length ua.nc, .slice ua.uo D.upF.length ua.uc, .slice ua.wo D.dnF.length ua.wc] 22) = Z5) := hZ5
                have hbs := Hi.build_three32 ua.no ua.uo ua.wo D.node.length D.upF.length D.dnF.length ua.nc ua.uc ua.wc
                have HZ6 : Hid (Z5.heap[r1]? = some (.cells #[.slice ua.no D.node.length ua.nc, .slice ua.uo D.upF.length ua.uc, .slice ua.wo D.dnF.length ua.wc] 22) ∧ Hi.FR PP Z Z5 ∧ Sev ua D 3 Z5) := by
                  have g1 : Z5.heap[r1]? = some (.cells #[.slice ua.no D.node.length ua.nc, .slice ua.uo D.upF.length ua.uc, .slice ua.wo D.dnF.length ua.wc] 22) := by rw [← hZ5, ← hr1]; exact heap_new _ _
                  have g2 : Below wr.heap.size wr Z5 := by rw [← hZ5]; exact (Below.refl _ _).alloc (Nat.le_refl _) _
                  exact ⟨g1, HG3.out.below g2, HS3.out.keep g2⟩
                have HROW5 : Hid (∀ i, i < 3 → Z5.cell? ⟨r1, i, none⟩ = some (.slice (row3 ua D i).1 (row3 ua D i).2.1 (row3 ua D i).2.2)) := fun i hi => by
                  have hr := HZ6.out.1
                  match i, hi with
                  | 0, _ => simp [World.cell?, hr, row3]
                  | 1, _ => simp [World.cell?, hr, row3]
                  | 2, _ => simp [World.cell?, hr, row3]
                clear hZ5 hi
                go_wp2_with fail
                rw [HZ5.out]
                clear HZ5 hr1 hbs c0 c1 c2 c3 c4 l0 q6
                generalize hW : wr = W7 at *
                clear hW
                go_loopw [163] (fun iv wr => ∃ i : Nat, i ≤ 3 ∧ iv = .int .i64 (i : Int) ∧ Hid (wr = Z5)) (fun iv _ => 3 - (intOf iv).toNat)
                case atStart => exact ⟨0, Nat.zero_le _, rfl, rfl⟩
                case round =>
                  obtain ⟨i, hi, rfl, HE⟩ := hrel
                  have hE := HE.out.symm
                  clear HE
                  subst hE
                  rcases Nat.lt_or_eq_of_le hi with h1 | h1
                  · have ck := HROW5.out i h1
                    have hlo := (HLS.out Z5 HZ6.out.2.1).2.2.1 i h1
                    obtain ⟨_, hnb⟩ := HRB.out i h1
                    have HI3 : Hid (i < 3) := h1
                    have hs7 := HZ6.out.2.2 i
                    obtain ⟨so, n, sc, hR⟩ : ∃ so n sc, row3 ua D i = (so, n, sc) := ⟨_, _, _, rfl⟩
                    rw [hR] at ck hlo hnb hs7
                    simp only at ck hlo hnb hs7
                    have i1 : (0 : Int) ≤ (i : Int) := by omega
                    have i2 : (i : Int) < 3 := by omega
                    have HLL : Hid (Hi.Loose Z5 39 1 (.slice so n sc) n ∧ ∀ b j, so = some ⟨b, 0, none⟩ → j < n → Z5.cell? ⟨b, j, none⟩ = some (.int .u32 7777)) := ⟨hlo, fun b j => hs7 b j h1⟩
                    clear hlo hR hs7
                    go_wp2_with fail
                    go_loopw [169] (fun jv wq => ∃ j : Nat, j ≤ n ∧ jv = .int .i64 (j : Int) ∧ Hid (wq = Z5)) (fun jv _ => n - (intOf jv).toNat)
                    case atStart => exact ⟨0, Nat.zero_le _, rfl, rfl⟩
                    case round =>
                      obtain ⟨j, hj, rfl, HE⟩ := hrel
                      have hE := HE.out.symm
                      clear HE
                      subst hE
                      rcases Nat.lt_or_eq_of_le hj with h2 | h2
                      · obtain ⟨b, hso, _⟩ := HLL.out.1.at (by omega)
                        have k7 := HLL.out.2 b j hso h2
                        subst hso
                        have j1 : (0 : Int) ≤ (j : Int) := by omega
                        have j2 : (j : Int) < (n : Int) := by omega
                        go_wp2
                        go_roundw
                        case rel => exact ⟨j + 1, by omega, by go_num, by first | exact True.intro | exact rfl⟩
                        case measure => simp [intOf]; omega
                      · obtain rfl : j = n := h2
                        have q6 : decide ((j : Int) < (j : Int)) = false := by simp
                        go_wp2_with fail
                        exact ⟨⟨i + 1, by have := HI3.out; omega, by rw [show (i : Int) + 1 = ((i + 1 : Nat) : Int) by omega], by first | exact True.intro | exact rfl⟩, by have := HI3.out; simp only [intOf]; omega⟩
                  · subst h1
                    have q6 : decide ((3 : Int) < 3) = false := by decide
                    obtain ⟨c0, c1, c2, c3, c4⟩ := Hi.five_cells (HF.out Z5 HZ6.out.2.1).1
                    have l0 := w_lt_get (HF.out Z5 HZ6.out.2.1).1
                    obtain ⟨r2, hr2⟩ : ∃ r, Z5.heap.size = r := ⟨_, rfl⟩
                    obtain ⟨Z7, hZ7⟩ : ∃ Z7, Z5.alloc (.cells #[.slice ua.ul D.up.length ua.ulc, .slice ua.dl D.dn.length ua.dlc] 23) = Z7 := ⟨_, rfl⟩
                    have HZ7 : Hid (Z5.alloc (.cells #[.slice ua.ul D.up.length ua.ulc, .slice ua.dl D.dn.length ua.dlc] 23) = Z7) := hZ7
                    have hbs := Hi.build_twoL ua.ul ua.dl D.up.length D.dn.length ua.ulc ua.dlc
                    have HZ8 : Hid (Z7.heap[r2]? = some (.cells #[.slice ua.ul D.up.length ua.ulc, .slice ua.dl D.dn.length ua.dlc] 23) ∧ Hi.FR PP Z Z7 ∧ r2 < Z7.heap.size ∧ Z.heap.size ≤ r2) := by
                      have g1 : Z7.heap[r2]? = some (.cells #[.slice ua.ul D.up.length ua.ulc, .slice ua.dl D.dn.length ua.dlc] 23) := by rw [← hZ7, ← hr2]; exact heap_new _ _
                      exact ⟨g1, HZ6.out.2.1.below (by rw [← hZ7]; exact (Below.refl _ _).alloc (Nat.le_refl _) _), w_lt_get g1, by have := HZ6.out.2.1.size; omega⟩
                    have HROW2 : Hid (∀ wx i, Hi.FR PP Z7 wx → i < 2 → ∃ so n sc, wx.cell? ⟨r2, i, none⟩ = some (.slice so n sc) ∧ Hi.Loose wx 43 4 (.slice so n sc) n ∧ (∀ b, (Value.slice so n sc).ownBlock = some b → PP b) ∧ n ≤ 1048576) := fun wx i hx hi => by
                      have hr := (hx.safe r2 HZ8.out.2.2.1 (HSF.out.2.2.2.2.2 r2 HZ8.out.2.2.2)).trans HZ8.out.1
                      obtain ⟨_, _, _, l3, l4⟩ := HLS.out wx (HZ8.out.2.1.trans hx)
                      obtain ⟨_, _, _, q4, q5⟩ := HFW.out
                      match i, hi with
                      | 0, _ => exact ⟨_, _, _, by simp [World.cell?, hr], l3, fun b e => HPA.out b (.inr (.inr (.inl e))), q4⟩
                      | 1, _ => exact ⟨_, _, _, by simp [World.cell?, hr], l4, fun b e => HPA.out b (.inr (.inr (.inr (.inr e)))), q5⟩
                    have HFZ7 : Hid (Hi.FR PP Z7 Z7) := Hi.FR.refl _ _
                    have hbl := Hi.build_l9
                    clear hZ7 hi
                    go_wp2_with fail
                    rw [HZ7.out]
                    clear HZ7 hr2 hbs c0 c1 c2 c3 c4 l0 q6
                    go_loopw [183] (fun iv wr => ∃ i : Nat, i ≤ 2 ∧ iv = .int .i64 (i : Int) ∧ Hid (Hi.FR PP Z7 wr)) (fun iv _ => 2 - (intOf iv).toNat)
                    case atStart => exact ⟨0, Nat.zero_le _, rfl, HFZ7.out⟩
                    case round =>
                      obtain ⟨i, hi, rfl, HG⟩ := hrel
                      rcases Nat.lt_or_eq_of_le hi with h1 | h1
                      · obtain ⟨so, n, sc, ck, hlo, hpp, hnb⟩ := HROW2.out wr i HG.out h1
                        have i1 : (0 : Int) ≤ (i : Int) := by omega
                        have i2 : (i : Int) < 2 := by omega
                        have HI2 : Hid (i < 2) := h1
                        have HLL : Hid (Hi.Loose wr 43 4 (.slice so n sc) n ∧ ∀ b, (Value.slice so n sc).ownBlock = some b → PP b) := ⟨hlo, hpp⟩
                        clear hlo hpp
                        go_wp2_with fail
                        generalize hW : wr = W8 at *
                        clear hW
                        go_loopw [189] (fun jv wq => ∃ j : Nat, j ≤ n ∧ jv = .int .i64 (j : Int) ∧ Hid (Hi.FR PP Z7 wq) ∧ Hid (Hi.Loose wq 43 4 (.slice so n sc) n)) (fun jv _ => n - (intOf jv).toNat)
                        case atStart => exact ⟨0, Nat.zero_le _, rfl, HG.out, HLL.out.1⟩
                        case round =>
                          obtain ⟨j, hj, rfl, HQ1, HQ2⟩ := hrel
                          rcases Nat.lt_or_eq_of_le hj with h2 | h2
                          · obtain ⟨b, hso, hw⟩ := HQ2.out.at (by omega)
                            subst hso
                            obtain ⟨⟨v0, k0⟩, f0⟩ := hw (j * 4) (by omega)
                            obtain ⟨⟨v1, k1⟩, f1⟩ := hw (j * 4 + 1) (by omega)
                            obtain ⟨⟨v2, k2⟩, f2⟩ := hw (j * 4 + 2) (by omega)
                            obtain ⟨⟨v3, k3⟩, f3⟩ := hw (j * 4 + 3) (by omega)
                            have j1 : (0 : Int) ≤ (j : Int) := by omega
                            have j2 : (j : Int) < (n : Int) := by omega
                            have HPB : PP b := HLL.out.2 b rfl
                            have HST : Hid (Hi.FR PP Z7 ((((wr.setCell ⟨b, j * 4, none⟩ (.int .u32 9)).setCell ⟨b, j * 4 + 1, none⟩ (.int .u64 0)).setCell ⟨b, j * 4 + 2, none⟩ (.int .u32 0)).setCell ⟨b, j * 4 + 3, none⟩ (.int .u32 0)) ∧ Hi.Loose ((((wr.setCell ⟨b, j * 4, none⟩ (.int .u32 9)).setCell ⟨b, j * 4 + 1, none⟩ (.int .u64 0)).setCell ⟨b, j * 4 + 2, none⟩ (.int .u32 0)).setCell ⟨b, j * 4 + 3, none⟩ (.int .u32 0)) 43 4 (.slice (some ⟨b, 0, none⟩) n sc) n) := ⟨(((HQ1.out.store HPB _ _).store HPB _ _).store HPB _ _).store HPB _ _, HQ2.out.shp ((((Hi.Shp.store _ _ _ _).trans (Hi.Shp.store _ _ _ _)).trans (Hi.Shp.store _ _ _ _)).trans (Hi.Shp.store _ _ _ _))⟩
                            clear hw HPB
                            go_wp2
                            go_roundw
                            case rel => exact ⟨j + 1, by omega, by go_num, HST.out.1, HST.out.2⟩
                            case measure => simp [intOf]; omega
                          · obtain rfl : j = n := h2
                            have q6 : decide ((j : Int) < (j : Int)) = false := by simp
                            go_wp2_with fail
                            exact ⟨⟨i + 1, by have := HI2.out; omega, by rw [show (i : Int) + 1 = ((i + 1 : Nat) : Int) by omega], HQ1.out⟩, by have := HI2.out; simp only [intOf]; omega⟩
                      · subst h1
                        have q6 : decide ((2 : Int) < 2) = false := by decide
                        have HG9 : Hid (Hi.FR PP Z wr) := HZ8.out.2.1.trans HG.out
                        clear HG hi
                        have HW : Hid (∀ wx, Below wr.heap.size wr wx → wx.heap[pb]? = some (.cells #[.slice ub.no D.node.length ub.nc, .slice ub.uo D.upF.length ub.uc, .slice ub.ul D.up.length ub.ulc, .slice ub.wo D.dnF.length ub.wc, .slice ub.dl D.dn.length ub.dlc] 25) ∧ wx.heap[w.heap.size]? = some (.cells #[.slice v.no h.node.length v.nc, .slice v.uo h.upF.length v.uc, .slice v.ul h.up.length v.ulc, .slice v.wo h.dnF.length v.wc, .slice v.dl h.dn.length v.dlc] 25) ∧ Hi.HasH wx ub D ∧ HasB wx (.slice qo L.length qc) L ∧ Hi.HasH wx v h ∧ Below w.heap.size w wx) := fun wx hx => by
                          obtain ⟨f1, f2, f3, f4, f5, f6, f7, f8⟩ := HF.out wr HG9.out
                          exact ⟨(hx.block _ (w_lt_get f2)).trans f2, (hx.block _ (w_lt_get f3)).trans f3, f4.keep hx, f5.keep hx, f7.keep hx, f8.trans (hx.mono f8.size)⟩
                        go_wp2_with fail
                        refine (HDD.out wr HXS.out (HF.out wr HG9.out).2.2.2.2.2.1).mono ?_
                        rintro e t1 ⟨uw, cc1, lb, nn1, cb, rfl, hu, hb⟩
                        have T1 : Hid (Hi.HasH t1 uw D ∧ Below wr.heap.size wr t1) := ⟨hu, hb⟩
                        clear hu hb q6
                        obtain ⟨rw, hrw⟩ : ∃ r, t1.heap.size = r := ⟨_, rfl⟩
                        obtain ⟨T2, hT2⟩ : ∃ T2, (t1.alloc (.cells #[.slice uw.no D.node.length uw.nc, .slice uw.uo D.upF.length uw.uc, .slice uw.ul D.up.length uw.ulc, .slice uw.wo D.dnF.length uw.wc, .slice uw.dl D.dn.length uw.dlc] 25)).alloc (.cells #[.int .i64 cc1, .slice lb nn1 cb] 46) = T2 := ⟨_, rfl⟩
                        obtain ⟨g0, g1, g2⟩ := two_newI t1 (.cells #[.slice uw.no D.node.length uw.nc, .slice uw.uo D.upF.length uw.uc, .slice uw.ul D.up.length uw.ulc, .slice uw.wo D.dnF.length uw.wc, .slice uw.dl D.dn.length uw.dlc] 25) (.cells #[.int .i64 cc1, .slice lb nn1 cb] 46)
                        rw [hT2] at g0 g1 g2
                        rw [hrw] at g0 g1
                        have HT2 : Hid ((t1.alloc (.cells #[.slice uw.no D.node.length uw.nc, .slice uw.uo D.upF.length uw.uc, .slice uw.ul D.up.length uw.ulc, .slice uw.wo D.dnF.length uw.wc, .slice uw.dl D.dn.length uw.dlc] 25)).alloc (.cells #[.int .i64 cc1, .slice lb nn1 cb] 46) = T2 ∧ t1.heap.size = rw) := ⟨hT2, hrw⟩
                        have HW2 : Hid (∀ wx, Below T2.heap.size T2 wx → wx.heap[rw]? = some (.cells #[.slice uw.no D.node.length uw.nc, .slice uw.uo D.upF.length uw.uc, .slice uw.ul D.up.length uw.ulc, .slice uw.wo D.dnF.length uw.wc, .slice uw.dl D.dn.length uw.dlc] 25) ∧ Hi.HasH wx uw D ∧ Below wr.heap.size wr wx) := fun wx hx => ⟨(hx.block _ (w_lt_get g0)).trans g0, T1.out.1.keep (btrI g2 hx), btrI T1.out.2 (btrI g2 hx)⟩
                        clear hT2 hrw g0 g1 g2
                        go_upto_region 57 with fail
                        rw [HT2.out.1]
                        try rw [HT2.out.2]
                        obtain ⟨c0, c1, c2, c3, c4⟩ := Hi.five_cells (HW.out T2 (HW2.out T2 (Below.refl _ _)).2.2).2.1
                        have l0 := w_lt_get (HW.out T2 (HW2.out T2 (Below.refl _ _)).2.2).2.1
                        go_wp2_with fail
                        refine (HDE.out T2 (HW.out T2 (HW2.out T2 (Below.refl _ _)).2.2).2.2.2.2.1).mono ?_
                        rintro e t3 ⟨mo, mc, cc2, lo3, nn3, lc3, rfl, hp, hb⟩
                        have T3 : Hid (HasB t3 (.slice mo L.length mc) L ∧ Below T2.heap.size T2 t3) := ⟨hp, hb⟩
                        clear hp hb c0 c1 c2 c3 c4 l0
                        obtain ⟨T4, hT4⟩ : ∃ T4, t3.alloc (.cells #[.int .i64 cc2, .slice lo3 nn3 lc3] 46) = T4 := ⟨_, rfl⟩
                        have HT4 : Hid (t3.alloc (.cells #[.int .i64 cc2, .slice lo3 nn3 lc3] 46) = T4) := hT4
                        have b4 : Hid (Below t3.heap.size t3 T4) := by rw [← hT4]; exact (Below.refl _ _).alloc (Nat.le_refl _) _
                        clear hT4
                        go_upto_region 58 with fail
                        rw [HT4.out]
                        have K4 : Hid (Below T2.heap.size T2 T4) := btrI T3.out.2 b4.out
                        obtain ⟨c0, c1, c2, c3, c4⟩ := Hi.five_cells (HW.out T4 (HW2.out T4 K4.out).2.2).1
                        have l0 := w_lt_get (HW.out T4 (HW2.out T4 K4.out).2.2).1
                        obtain ⟨e0, e1, e2, e3, e4⟩ := Hi.five_cells (HW2.out T4 K4.out).1
                        have l1 := w_lt_get (HW2.out T4 K4.out).1
                        go_wp2_with fail
                        refine (HSAd.out T4 ub uw (HW.out T4 (HW2.out T4 K4.out).2.2).2.2.1 (HW2.out T4 K4.out).2.1).mono ?_
                        rintro e t5 ⟨rfl, hb⟩
                        have T5 : Hid (Below T4.heap.size T4 t5) := hb
                        clear hb c0 c1 c2 c3 c4 l0 e0 e1 e2 e3 e4 l1
                        go_wp2_with fail
                        refine (HKS.out t5 L qo qc mo mc (HW.out t5 (HW2.out t5 (btrI K4.out T5.out)).2.2).2.2.2.1 (T3.out.1.keep (btrI b4.out T5.out))).mono ?_
                        rintro e t6 ⟨rfl, hz6⟩
                        have hz6' := hz6.symm
                        clear hz6
                        subst hz6'
                        go_wp2
                        go_ret
                        exact ⟨rfl, (HW.out t5 (HW2.out t5 (btrI K4.out T5.out)).2.2).2.2.2.2.2⟩
end Go.Proofs.YtamedcnjanichabGreatDoor
