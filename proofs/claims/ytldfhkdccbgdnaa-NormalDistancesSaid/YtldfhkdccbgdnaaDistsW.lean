/- The law NormalDistances, walked at graphs with few nodes. -/
import Derived.Test.YtldfhkdccbgdnaaDistW
import Derived.Test.YtldfhkdccbgdnaaFewW
import Derived.Test.YtldfhkdccbgdnaaMerge
import Derived.Test.YtldfhkdccbgdnaaBoth
import Derived.Test.YtldfhkdccbgdnaaPut
import Derived.Test.YtldfhkdccbgdnaaAwake
namespace Go.Proofs.Ytldfhkdccbgdnaa
open Go.RowKit Go.Extern

attribute [local go_sem] Oper.semAt_some

theorem few_of {N : Int} {xs : List (Int × Int × Int)} (h : graphErr N xs = (0, [])) (h1 : N ≤ 12) (h2 : xs.length ≤ 2000) : isFew N xs = true := by
  unfold isFew
  exact decide_eq_true ⟨h, h1, h2⟩
theorem merge_any {N M : Int} {ao bo : Option Addr} {n cap k bc : Nat} {xs ys : List (Int × Int × Int)} {w : World} (hx : HasArcs w (.slice ao n cap) xs) (hy : HasArcs w (.slice bo k bc) ys) (hxn : ao = none → cap = 0) (hyn : bo = none → bc = 0) (hmx : xs.length ≤ maxLen) (hmy : ys.length ≤ maxLen) {E : Int × List (Int × Int)} (hE : bothErr N M xs ys = E) (hS : E = (0, []) → xs.length + ys.length ≤ 262144) :
    Calls Try.prog 12 #[.agg #[.int .i64 N, .slice ao n cap], .agg #[.int .i64 M, .slice bo k bc]] w fun e w' => ∃ K lo q lc v zs, e = .returned (.tuple #[.agg #[.int .i64 K, .slice lo q lc], v]) ∧ HasArcs w' (.slice lo q lc) zs ∧ IsTold w' E v ∧ ((E = (0, []) ∧ K = N ∧ zs = xs ++ ys) ∨ (E ≠ (0, []) ∧ K = 0 ∧ zs = [])) ∧ Below w.heap.size w w' := by
  have hn := arcs_len hx
  subst hn
  have hk := arcs_len hy
  subst hk
  refine (merge_of E N M ao bo cap bc xs ys w hx hy hxn hyn (fun wy h1 h2 => by have h3 := both_calls N M ao bo cap bc xs ys wy h1 h2 hmx hmy; rw [hE] at h3; exact h3) hS).mono ?_
  rintro e w' ⟨K, lo, q, lc, v, zs, rfl, h1, _, h2, h3, h4⟩
  exact ⟨K, lo, q, lc, v, zs, rfl, h1, h2, h3, h4⟩
theorem of_some {N : Int} {ao : Option Addr} {n cap : Nat} {xs : List (Int × Int × Int)} {w : World} (hl : HasArcs w (.slice ao n cap) xs) (hg : graphErr N xs = (0, [])) : Calls Try.prog 8 #[.agg #[.int .i64 N, .slice ao n cap]] w fun e w' => ∃ b k lc, e = .returned (.tuple #[.agg #[.int .i64 N, .slice (some ⟨b, 0, none⟩) k lc], .nilIface]) ∧ HasArcs w' (.slice (some ⟨b, 0, none⟩) k lc) (normA xs) ∧ Below w.heap.size w w' := by
  have hn := arcs_len hl
  subst hn
  have hm : xs.length ≤ 262144 := by have := ((good_iff N xs).1 hg).1; omega
  refine (of_calls N ao cap xs (normA xs) w hl hg hm (compacts_all xs hm)).mono ?_
  rintro e w' ⟨b, rfl, hA, hB⟩
  exact ⟨b, _, _, rfl, hA, hB⟩
theorem good_append {N : Int} {xs ys : List (Int × Int × Int)} (h1 : graphErr N xs = (0, [])) (h2 : graphErr N ys = (0, [])) (hl : xs.length + ys.length ≤ 262144) : graphErr N (xs ++ ys) = (0, []) := by
  rw [good_iff] at *
  rw [List.length_append]
  refine ⟨by omega, fun a ha => ?_⟩
  rcases List.mem_append.1 ha with h | h
  · exact h1.2 a h
  · exact h2.2 a h
theorem both_ok {n : Nat} {xs ys : List (Int × Int × Int)} (h1 : graphErr (n : Int) xs = (0, [])) (h2 : graphErr (n : Int) ys = (0, [])) (hl : xs.length + ys.length ≤ 262144) : bothErr (n : Int) n xs ys = (0, []) := by
  unfold bothErr
  rw [h1, h2]
  simp
  omega
theorem both_ne {n m : Nat} {xs ys : List (Int × Int × Int)} (h1 : graphErr (n : Int) xs = (0, [])) (h2 : graphErr (m : Int) ys = (0, [])) (hne : n ≠ m) : bothErr (n : Int) m xs ys = (1, []) := by
  unfold bothErr
  rw [h1, h2]
  simp
  omega
theorem putA_len : ∀ (l : List (Int × Int × Int)) (a : Int × Int × Int), (putA l a).length ≤ l.length + 1 ∧ 0 < (putA l a).length
  | [], a => by simp [putA]
  | b :: r, a => by
    have h := putA_len r a
    unfold putA
    split
    · simp only [List.length_cons]; omega
    · split <;> simp
theorem fold_len (r : List (Int × Int × Int)) : ∀ (l : List (Int × Int × Int)), (r.foldl putA l).length ≤ l.length + r.length := by
  induction r with
  | nil => intro l; simp
  | cons a r ih =>
    intro l
    have h1 := ih (putA l a)
    have h2 := (putA_len l a).1
    rw [List.foldl_cons, List.length_cons]
    omega
/-- arcs don't lie in a graph's box. -/
theorem HasArcs.lay {w : World} {lv : Value} {xs : List (Int × Int × Int)} {mb : Nat} {x y : Value} (h : HasArcs w lv xs) (hb : w.heap[mb]? = some (.cells #[x, y] 24)) (u v : Value) : HasArcs ((w.setCell ⟨mb, 0, none⟩ u).setCell ⟨mb, 1, none⟩ v) lv xs := by
  obtain ⟨ao, cap, e, hc⟩ := h
  refine ⟨ao, cap, e, fun j a hj => ?_⟩
  obtain ⟨b, off, ea, hl, h0, h1, h2⟩ := hc j a hj
  have hne : b ≠ mb := fun e => by
    subst e
    simp only [World.cell?, hb] at h2
    simp at h2
  have hk : ∀ o, ((w.setCell ⟨mb, 0, none⟩ u).setCell ⟨mb, 1, none⟩ v).cell? ⟨b, o, none⟩ = w.cell? ⟨b, o, none⟩ := fun o => World.cell?_of_block ((heap_setCell_other _ _ _ _ hne).trans (heap_setCell_other _ _ _ _ hne))
  exact ⟨b, off, ea, by simpa using hl, (hk _).trans h0, (hk _).trans h1, (hk _).trans h2⟩
theorem cut_of_row {w : World} {base : Nat} {lo : Option Addr} {lc : Nat} {l : List (Int × Int × Int)} (h : w.ownsRow base 39 3 (.slice lo l.length lc) l.length (flatC l)) (hp : 0 < l.length) : Cut lo l.length lc := by
  rcases h.2 with ⟨_, h0⟩ | ⟨g, cap, cur, e, _, _, hc, _⟩
  · omega
  · injection e with e1 e2 e3
    subst e1 e3
    exact Or.inr ⟨g, 0, rfl, hp, hc⟩
/-- a list in memory of its own, that a further one may be cut from. -/
def RowAt (w : World) (v : Value) (l : List (Int × Int × Int)) : Prop := ∃ B lo lc, v = .slice lo l.length lc ∧ w.ownsRow B 39 3 (.slice lo l.length lc) l.length (flatC l) ∧ Cut lo l.length lc
theorem wpList_append_new {w : World} {ops : Array Oper} {rest : List Oper} {o : Oper} {a : Act} {Q : Exit → Act → World → Prop} (hgd : o.guard = none) (s x : Operand)
    (ho : o.op = .call { callee := .builtin .append, args := #[s, x], argTypes := #[22, 22] })
    (hs : a.eval s = .slice none 0 0)
    (ad : Addr) (ac : Nat) (xs : List (Int × Int × Int)) (hx : a.eval x = .slice (some ad) xs.length ac) (hl : HasArcs w (.slice (some ad) xs.length ac) xs)
    (hlen : xs.length ≤ 1048576)
    (h : ∀ v' w', RowAt w' v' xs → Below w.heap.size w w' → wpList Try.prog ops Q rest (a.put o.dst v') w') : wpList Try.prog ops Q (o :: rest) a w := by
  obtain ⟨i0, hi, hz0, hz1, hz2⟩ : ∃ i, Try.prog.info? 39 = some i ∧ i.zero = some (.agg #[.int .i64 0, .int .i64 0, .int .i64 0]) ∧ i.size = 3 ∧ i.bytes = 24 := by
    have h := Try.infoC
    cases hi : Try.prog.info? 39 with
    | none => rw [hi] at h; cases h
    | some i => rw [hi] at h; simp at h; exact ⟨i, rfl, h.1, h.2.1, h.2.2⟩
  refine wpList_append_own _ hgd s x 22 ho w.heap.size 39 i0 _ 3 24 Try.underlying22 hi hz0 hz1 hz2 rfl (by decide) (.slice none 0 0) 0 [] hs (World.ownsRow_nil _ _ _ _) ad xs.length ac (flatC xs) hx (flatC_len xs) (flatC_at hl) (flatC_one xs) (by unfold maxLen; omega) (by omega) (Nat.le_refl _) ?_
  intro v' w' h1 h2 h3
  rw [Nat.zero_add, List.nil_append] at h1
  refine h v' w' ?_ (below_grown (Below.refl _ _) (World.ownsRow_nil _ _ _ _) h2 (Nat.le_refl _))
  obtain ⟨lo, lc, rfl⟩ := rowC_slice h1
  refine ⟨_, lo, lc, rfl, h1, ?_⟩
  by_cases he : xs.length = 0
  · have h4 := h3.2 ⟨rfl, he⟩
    injection h4 with e1 e2 e3
    exact Or.inl ⟨e1, he, e3⟩
  · exact cut_of_row h1 (by omega)
theorem fold_step {l r : List (Int × Int × Int)} {k : Nat} {x : Int × Int × Int} (hx : r[k]? = some x) : (r.take (k + 1)).foldl putA l = putA ((r.take k).foldl putA l) x := by
  rw [List.take_add_one, hx, List.foldl_append]
  simp only [Option.toList_some, List.foldl_cons, List.foldl_nil]
theorem fold_small {l r : List (Int × Int × Int)} (k : Nat) (h1 : l.length ≤ 2000) (h2 : r.length ≤ 2000) : ((r.take k).foldl putA l).length ≤ 262144 := by
  have h3 := fold_len (r.take k) l
  have h4 : (r.take k).length ≤ r.length := by rw [List.length_take]; omega
  omega
theorem put_at {w : World} {v : Value} {l : List (Int × Int × Int)} (h : RowAt w v l) (hm : l.length ≤ 262144) (a : Int × Int × Int) (wx : World) (hb : Below w.heap.size w wx) : Calls Try.prog 13 #[v, arcV a] wx fun e w' => ∃ v', e = .returned v' ∧ RowAt w' v' (putA l a) ∧ Below wx.heap.size wx w' := by
  obtain ⟨B, lo, lc, rfl, h1, h2⟩ := h
  refine (put_calls a lo lc l wx ((arcs_of_rowC h1).keep hb) h2 hm).mono ?_
  rintro e w' ⟨v', rfl, h3, h4⟩
  refine ⟨v', rfl, ?_, h4⟩
  obtain ⟨so, sc, rfl⟩ := rowC_slice h3
  exact ⟨_, so, sc, rfl, h3, cut_of_row h3 (putA_len l a).2⟩

theorem put_at3 {w : World} {v : Value} {l l2 : List (Int × Int × Int)} (h : RowAt w v l) (hm : l.length ≤ 262144) (x0 x1 x2 : Int) (hl2 : l2 = putA l (x0, x1, x2)) : ∀ wx, Below w.heap.size w wx → Calls Try.prog 13 #[v, .agg #[.int .i64 x0, .int .i64 x1, .int .i64 x2]] wx fun e w' => ∃ v', e = .returned v' ∧ RowAt w' v' l2 ∧ Below wx.heap.size wx w' := by
  subst hl2
  exact fun wx hb => put_at h hm (x0, x1, x2) wx hb
theorem dist_at {n : Nat} (hn : n ≤ 12) {ao : Option Addr} {q cap : Nat} {xs : List (Int × Int × Int)} {w : World} (hl : HasArcs w (.slice ao q cap) xs) (hg : graphErr (n : Int) xs = (0, [])) : Calls Try.prog 10 #[.agg #[.int .i64 n, .slice ao q cap]] w fun e w' => ∃ db rs, e = .returned (.slice (some ⟨db, 0, none⟩) n n) ∧ MatP w.heap.size w' db n n rs (dist n xs) ∧ Below w.heap.size w w' := by
  obtain ⟨h1, h2⟩ := (good_iff _ xs).1 hg
  refine dist_calls n hn ao q cap xs w hl (fun a ha => ?_) (fine_good hg) (by omega)
  have := h2 a ha
  unfold arcBad at this
  split at this
  · cases this
  · omega

set_option maxRecDepth 100000 in
set_option maxHeartbeats 16000000 in
theorem dists_good (n m : Nat) (hn : n ≤ 12) (hm : m ≤ 12) (ao bo : Option Addr) (qa ca qb cb : Nat) (xs ys : List (Int × Int × Int)) (w : World) (hx : HasArcs w (.slice ao qa ca) xs) (hy : HasArcs w (.slice bo qb cb) ys) (hxn : ao = none → ca = 0) (hyn : bo = none → cb = 0) (hgx : graphErr (n : Int) xs = (0, [])) (hgy : graphErr (m : Int) ys = (0, [])) (hlx : xs.length ≤ 2000) (hly : ys.length ≤ 2000) : Calls Try.prog 3 #[.agg #[.int .i64 n, .slice ao qa ca], .agg #[.int .i64 m, .slice bo qb cb]] w fun e w' => e = .returned (.bool true) ∧ Below w.heap.size w w' := by
  have HX : Hid (graphErr (n : Int) xs = (0, []) ∧ graphErr (m : Int) ys = (0, []) ∧ (ao = none → ca = 0) ∧ (bo = none → cb = 0)) := ⟨hgx, hgy, hxn, hyn⟩
  have HXL : Hid (xs.length ≤ 2000 ∧ ys.length ≤ 2000 ∧ (normA xs).length ≤ 2000 ∧ (xs.map turn).length ≤ 2000 ∧ qa = xs.length ∧ qb = ys.length) := ⟨hlx, hly, Nat.le_trans (normA_len xs) hlx, by rw [List.length_map]; exact hlx, arcs_len hx, arcs_len hy⟩
  have HF1 : Hid (isFew (n : Int) xs = true) := few_of hgx (by omega) hlx
  have HF2 : Hid (isFew (m : Int) ys = true) := few_of hgy (by omega) hly
  have HF3 : Hid (isFew (n : Int) (normA xs) = true) := few_of (good_norm hgx) (by omega) (Nat.le_trans (normA_len xs) hlx)
  have HF4 : Hid (isFew (n : Int) (xs.map turn) = true) := few_of (good_turn hgx) (by omega) (by rw [List.length_map]; exact hlx)
  have hG1 := Gr.new (n : Int) hx
  have HG0 : Hid (∀ X, (w.alloc (.cells #[.int .i64 n, .slice ao qa ca] 24)).alloc (.cells #[.int .i64 m, .slice bo qb cb] 24) = X → Below w.heap.size w X ∧ Gr X w.heap.size n ao qa ca xs ∧ Gr X (w.heap.size + 1) m bo qb cb ys) := fun X e => by
    have s1 : (w.alloc (.cells #[.int .i64 n, .slice ao qa ca] 24)).heap.size = w.heap.size + 1 := by simp
    obtain ⟨h2, h3⟩ := Gr.new (m : Int) (hy.keep hG1.2)
    rw [e] at h2 h3
    rw [s1] at h2
    exact ⟨hG1.2.trans (h3.mono (by omega)), hG1.1.keep h3, h2⟩
  clear hx hy hxn hyn hgx hgy hlx hly hG1
  go_enter Try.func3, Try.ntmps3
  go_wp2_with fail
  generalize hW0 : (w.alloc (.cells #[.int .i64 n, .slice ao qa ca] 24)).alloc (.cells #[.int .i64 m, .slice bo qb cb] 24) = W0
  have I0 : Hid (Below w.heap.size w W0 ∧ Gr W0 w.heap.size n ao qa ca xs ∧ Gr W0 (w.heap.size + 1) m bo qb cb ys) := HG0.out W0 hW0
  clear hW0 HG0
  refine (awake_calls _).mono ?_
  rintro e w1 ⟨rfl, h⟩
  have I1 : Hid (Below w.heap.size w w1 ∧ Gr w1 w.heap.size n ao qa ca xs ∧ Gr w1 (w.heap.size + 1) m bo qb cb ys) := ⟨I0.out.1.trans (h.mono I0.out.1.size), I0.out.2.1.keep h, I0.out.2.2.keep h⟩
  clear h
  obtain ⟨ca0, ca1, cas⟩ := I1.out.2.1.cells
  obtain ⟨cb0, cb1, cbs⟩ := I1.out.2.2.cells
  go_wp2_with fail
  have hfw := few_calls (n : Int) _ _ _ _ _ I1.out.2.1.arcs (by unfold maxLen; have := HXL.out; omega)
  rw [HF1.out] at hfw
  refine hfw.mono ?_
  rintro e w2 ⟨rfl, h⟩
  clear ca0 ca1 cas cb0 cb1 cbs
  have I2 : Hid (Below w.heap.size w w2 ∧ Gr w2 w.heap.size n ao qa ca xs ∧ Gr w2 (w.heap.size + 1) m bo qb cb ys) := ⟨I1.out.1.trans (h.mono I1.out.1.size), I1.out.2.1.keep h, I1.out.2.2.keep h⟩
  clear h hfw
  obtain ⟨ca0, ca1, cas⟩ := I2.out.2.1.cells
  obtain ⟨cb0, cb1, cbs⟩ := I2.out.2.2.cells
  go_wp2_with fail
  have hfw := few_calls (m : Int) _ _ _ _ _ I2.out.2.2.arcs (by unfold maxLen; have := HXL.out; omega)
  rw [HF2.out] at hfw
  refine hfw.mono ?_
  rintro e w3 ⟨rfl, h⟩
  clear ca0 ca1 cas cb0 cb1 cbs
  have I3 : Hid (Below w.heap.size w w3 ∧ Gr w3 w.heap.size n ao qa ca xs ∧ Gr w3 (w.heap.size + 1) m bo qb cb ys) := ⟨I2.out.1.trans (h.mono I2.out.1.size), I2.out.2.1.keep h, I2.out.2.2.keep h⟩
  clear h hfw
  obtain ⟨ca0, ca1, cas⟩ := I3.out.2.1.cells
  obtain ⟨cb0, cb1, cbs⟩ := I3.out.2.2.cells
  go_wp2_with fail
  refine (great_no _ _ _ _ (by have := HXL.out; omega) _).mono ?_
  rintro e w4 ⟨rfl, h⟩
  clear ca0 ca1 cas cb0 cb1 cbs
  have I4 : Hid (Below w.heap.size w w4 ∧ Gr w4 w.heap.size n ao qa ca xs ∧ Gr w4 (w.heap.size + 1) m bo qb cb ys) := ⟨I3.out.1.trans (h.mono I3.out.1.size), I3.out.2.1.keep h, I3.out.2.2.keep h⟩
  clear h
  obtain ⟨ca0, ca1, cas⟩ := I4.out.2.1.cells
  obtain ⟨cb0, cb1, cbs⟩ := I4.out.2.2.cells
  go_wp2_with fail
  refine (great_no _ _ _ _ (by have := HXL.out; omega) _).mono ?_
  rintro e w5 ⟨rfl, h⟩
  clear ca0 ca1 cas cb0 cb1 cbs
  have I5 : Hid (Below w.heap.size w w5 ∧ Gr w5 w.heap.size n ao qa ca xs ∧ Gr w5 (w.heap.size + 1) m bo qb cb ys) := ⟨I4.out.1.trans (h.mono I4.out.1.size), I4.out.2.1.keep h, I4.out.2.2.keep h⟩
  clear h
  obtain ⟨ca0, ca1, cas⟩ := I5.out.2.1.cells
  obtain ⟨cb0, cb1, cbs⟩ := I5.out.2.2.cells
  go_wp2_with fail
  refine (of_some I5.out.2.1.arcs HX.out.1).mono ?_
  rintro e w6 ⟨nk, nn, nc, rfl, hA, h⟩
  have hnn := arcs_len hA
  subst hnn
  clear ca0 ca1 cas cb0 cb1 cbs
  have I6 : Hid (Below w.heap.size w w6 ∧ Gr w6 w.heap.size n ao qa ca xs ∧ Gr w6 (w.heap.size + 1) m bo qb cb ys ∧ HasArcs w6 (.slice (some ⟨nk, 0, none⟩) (normA xs).length nc) (normA xs)) := ⟨I5.out.1.trans (h.mono I5.out.1.size), I5.out.2.1.keep h, I5.out.2.2.keep h, hA⟩
  clear h hA
  obtain ⟨ca0, ca1, cas⟩ := I6.out.2.1.cells
  obtain ⟨cb0, cb1, cbs⟩ := I6.out.2.2.1.cells
  go_wp2_with fail
  generalize hL : w6.alloc (.cells #[.int .i64 n, .slice (some ⟨nk, 0, none⟩) (normA xs).length nc] 24) = W6
  obtain ⟨hGr, hB⟩ := Gr.new (n) I6.out.2.2.2
  rw [hL] at hGr hB
  clear ca0 ca1 cas cb0 cb1 cbs
  have I7 : Hid (Below w.heap.size w W6 ∧ Gr W6 w.heap.size n ao qa ca xs ∧ Gr W6 (w.heap.size + 1) m bo qb cb ys ∧ HasArcs W6 (.slice (some ⟨nk, 0, none⟩) (normA xs).length nc) (normA xs) ∧ Gr W6 (w6.heap.size) n (some ⟨nk, 0, none⟩) (normA xs).length nc (normA xs)) := ⟨I6.out.1.trans (hB.mono I6.out.1.size), I6.out.2.1.keep hB, I6.out.2.2.1.keep hB, I6.out.2.2.2.keep hB, hGr⟩
  clear hL hGr hB
  generalize w6.heap.size = nb at *
  obtain ⟨ca0, ca1, cas⟩ := I7.out.2.1.cells
  obtain ⟨cb0, cb1, cbs⟩ := I7.out.2.2.1.cells
  obtain ⟨cn0, cn1, cns⟩ := I7.out.2.2.2.2.cells
  refine (rev_good I7.out.2.1.arcs HX.out.1).mono ?_
  rintro e w7 ⟨tp, tn, tc, rfl, hA, h⟩
  clear ca0 ca1 cas cb0 cb1 cbs cn0 cn1 cns
  have I8 : Hid (Below w.heap.size w w7 ∧ Gr w7 w.heap.size n ao qa ca xs ∧ Gr w7 (w.heap.size + 1) m bo qb cb ys ∧ HasArcs w7 (.slice (some ⟨nk, 0, none⟩) (normA xs).length nc) (normA xs) ∧ Gr w7 nb n (some ⟨nk, 0, none⟩) (normA xs).length nc (normA xs) ∧ HasArcs w7 (.slice tp tn tc) (xs.map turn)) := ⟨I7.out.1.trans (h.mono I7.out.1.size), I7.out.2.1.keep h, I7.out.2.2.1.keep h, I7.out.2.2.2.1.keep h, I7.out.2.2.2.2.keep h, hA⟩
  clear h hA
  obtain ⟨ca0, ca1, cas⟩ := I8.out.2.1.cells
  obtain ⟨cb0, cb1, cbs⟩ := I8.out.2.2.1.cells
  obtain ⟨cn0, cn1, cns⟩ := I8.out.2.2.2.2.1.cells
  go_wp2_with fail
  generalize hL : w7.alloc (.cells #[.int .i64 n, .slice tp tn tc] 24) = W7
  obtain ⟨hGr, hB⟩ := Gr.new (n) I8.out.2.2.2.2.2
  rw [hL] at hGr hB
  clear ca0 ca1 cas cb0 cb1 cbs cn0 cn1 cns
  have I9 : Hid (Below w.heap.size w W7 ∧ Gr W7 w.heap.size n ao qa ca xs ∧ Gr W7 (w.heap.size + 1) m bo qb cb ys ∧ HasArcs W7 (.slice (some ⟨nk, 0, none⟩) (normA xs).length nc) (normA xs) ∧ Gr W7 nb n (some ⟨nk, 0, none⟩) (normA xs).length nc (normA xs) ∧ HasArcs W7 (.slice tp tn tc) (xs.map turn) ∧ Gr W7 (w7.heap.size) n tp tn tc (xs.map turn)) := ⟨I8.out.1.trans (hB.mono I8.out.1.size), I8.out.2.1.keep hB, I8.out.2.2.1.keep hB, I8.out.2.2.2.1.keep hB, I8.out.2.2.2.2.1.keep hB, I8.out.2.2.2.2.2.keep hB, hGr⟩
  clear hL hGr hB
  generalize w7.heap.size = tb at *
  obtain ⟨ca0, ca1, cas⟩ := I9.out.2.1.cells
  obtain ⟨cb0, cb1, cbs⟩ := I9.out.2.2.1.cells
  obtain ⟨cn0, cn1, cns⟩ := I9.out.2.2.2.2.1.cells
  obtain ⟨ct0, ct1, cts⟩ := I9.out.2.2.2.2.2.2.cells
  have hfw := few_calls (n : Int) _ _ _ _ _ I9.out.2.2.2.2.1.arcs (by unfold maxLen; have := HXL.out; omega)
  rw [HF3.out] at hfw
  refine hfw.mono ?_
  rintro e w8 ⟨rfl, h⟩
  clear ca0 ca1 cas cb0 cb1 cbs cn0 cn1 cns ct0 ct1 cts
  have I10 : Hid (Below w.heap.size w w8 ∧ Gr w8 w.heap.size n ao qa ca xs ∧ Gr w8 (w.heap.size + 1) m bo qb cb ys ∧ HasArcs w8 (.slice (some ⟨nk, 0, none⟩) (normA xs).length nc) (normA xs) ∧ Gr w8 nb n (some ⟨nk, 0, none⟩) (normA xs).length nc (normA xs) ∧ HasArcs w8 (.slice tp tn tc) (xs.map turn) ∧ Gr w8 tb n tp tn tc (xs.map turn)) := ⟨I9.out.1.trans (h.mono I9.out.1.size), I9.out.2.1.keep h, I9.out.2.2.1.keep h, I9.out.2.2.2.1.keep h, I9.out.2.2.2.2.1.keep h, I9.out.2.2.2.2.2.1.keep h, I9.out.2.2.2.2.2.2.keep h⟩
  clear h hfw
  obtain ⟨ca0, ca1, cas⟩ := I10.out.2.1.cells
  obtain ⟨cb0, cb1, cbs⟩ := I10.out.2.2.1.cells
  obtain ⟨cn0, cn1, cns⟩ := I10.out.2.2.2.2.1.cells
  obtain ⟨ct0, ct1, cts⟩ := I10.out.2.2.2.2.2.2.cells
  go_wp2_with fail
  have hfw := few_calls (n : Int) _ _ _ _ _ I10.out.2.2.2.2.2.2.arcs (by unfold maxLen; have := HXL.out; omega)
  rw [HF4.out] at hfw
  refine hfw.mono ?_
  rintro e w9 ⟨rfl, h⟩
  clear ca0 ca1 cas cb0 cb1 cbs cn0 cn1 cns ct0 ct1 cts
  have I11 : Hid (Below w.heap.size w w9 ∧ Gr w9 w.heap.size n ao qa ca xs ∧ Gr w9 (w.heap.size + 1) m bo qb cb ys ∧ HasArcs w9 (.slice (some ⟨nk, 0, none⟩) (normA xs).length nc) (normA xs) ∧ Gr w9 nb n (some ⟨nk, 0, none⟩) (normA xs).length nc (normA xs) ∧ HasArcs w9 (.slice tp tn tc) (xs.map turn) ∧ Gr w9 tb n tp tn tc (xs.map turn)) := ⟨I10.out.1.trans (h.mono I10.out.1.size), I10.out.2.1.keep h, I10.out.2.2.1.keep h, I10.out.2.2.2.1.keep h, I10.out.2.2.2.2.1.keep h, I10.out.2.2.2.2.2.1.keep h, I10.out.2.2.2.2.2.2.keep h⟩
  clear h hfw
  obtain ⟨ca0, ca1, cas⟩ := I11.out.2.1.cells
  obtain ⟨cb0, cb1, cbs⟩ := I11.out.2.2.1.cells
  obtain ⟨cn0, cn1, cns⟩ := I11.out.2.2.2.2.1.cells
  obtain ⟨ct0, ct1, cts⟩ := I11.out.2.2.2.2.2.2.cells
  go_wp2_with fail
  have tok1 : True := trivial
  have tok2 : True := trivial
  have D1 : Hid (∀ wx, Below w9.heap.size w9 wx → Calls Try.prog 10 #[.agg #[.int .i64 n, .slice ao qa ca]] wx fun e w' => ∃ db rs, e = .returned (.slice (some ⟨db, 0, none⟩) n n) ∧ MatP wx.heap.size w' db n n rs (dist n xs) ∧ Below wx.heap.size wx w') := fun wx h => dist_at hn (I11.out.2.1.keep h).arcs HX.out.1
  have D2 : Hid (∀ wx, Below w9.heap.size w9 wx → Calls Try.prog 10 #[.agg #[.int .i64 n, .slice tp tn tc]] wx fun e w' => ∃ db rs, e = .returned (.slice (some ⟨db, 0, none⟩) n n) ∧ MatP wx.heap.size w' db n n rs (dist n (xs.map turn)) ∧ Below wx.heap.size wx w') := fun wx h => dist_at hn (I11.out.2.2.2.2.2.2.keep h).arcs (good_turn HX.out.1)
  have K9 : Hid (∀ wx, Below w9.heap.size w9 wx → (wx.cell? ⟨w.heap.size, 0, none⟩ = some (.int .i64 n) ∧ wx.cell? ⟨w.heap.size, 1, none⟩ = some (.slice ao qa ca) ∧ w.heap.size < wx.heap.size) ∧ (wx.cell? ⟨tb, 0, none⟩ = some (.int .i64 n) ∧ wx.cell? ⟨tb, 1, none⟩ = some (.slice tp tn tc) ∧ tb < wx.heap.size)) := fun wx h => ⟨(I11.out.2.1.keep h).cells, (I11.out.2.2.2.2.2.2.keep h).cells⟩
  go_region_held3 (fun w' => w'.cell? ⟨w.heap.size, 0, none⟩ = some (.int .i64 n) ∧ w'.cell? ⟨w.heap.size, 1, none⟩ = some (.slice ao qa ca) ∧ w'.cell? ⟨tb, 0, none⟩ = some (.int .i64 n) ∧ w'.cell? ⟨tb, 1, none⟩ = some (.slice tp tn tc)) (go_keep) (first
    | (go_at_call 10; have _t := tok1; clear _t tok1; refine (D1.out _ (Below.refl _ _).drew).mono ?_; rintro e w10 ⟨da, ra, rfl, hM, h⟩; have J10 : Hid (Below w9.heap.size w9 w10 ∧ ∃ B, MatP B w10 da n n ra (dist n xs)) := ⟨(Below.refl _ _).drew.trans h, _, hM⟩; obtain ⟨⟨u0, u1, us⟩, ⟨v0, v1, vs⟩⟩ := K9.out w10 J10.out.1; clear hM h)
    | (go_at_call 10; have _t := tok2; clear _t tok2; refine (D2.out _ J10.out.1).mono ?_; rintro e w11 ⟨db, rb, rfl, hM, h⟩; have J11 : Hid (Below w9.heap.size w9 w11 ∧ (∃ B, MatP B w11 da n n ra (dist n xs)) ∧ ∃ B, MatP B w11 db n n rb (dist n (xs.map turn))) := ⟨J10.out.1.trans (h.mono J10.out.1.size), ⟨_, J10.out.2.choose_spec.keep h⟩, _, hM⟩; obtain ⟨⟨x0, x1, xss⟩, ⟨y0, y1, yss⟩⟩ := K9.out w11 J11.out.1; clear hM h))
  clear u0 u1 us v0 v1 vs x0 x1 xss y0 y1 yss
  clear ca0 ca1 cas cb0 cb1 cbs cn0 cn1 cns ct0 ct1 cts
  have I12 : Hid (Below w.heap.size w w11 ∧ Gr w11 w.heap.size n ao qa ca xs ∧ Gr w11 (w.heap.size + 1) m bo qb cb ys ∧ HasArcs w11 (.slice (some ⟨nk, 0, none⟩) (normA xs).length nc) (normA xs) ∧ Gr w11 nb n (some ⟨nk, 0, none⟩) (normA xs).length nc (normA xs) ∧ HasArcs w11 (.slice tp tn tc) (xs.map turn) ∧ Gr w11 tb n tp tn tc (xs.map turn) ∧ (∃ B, MatP B w11 da n n ra (dist n xs)) ∧ (∃ B, MatP B w11 db n n rb (dist n (xs.map turn)))) := ⟨I11.out.1.trans (J11.out.1.mono I11.out.1.size), I11.out.2.1.keep J11.out.1, I11.out.2.2.1.keep J11.out.1, I11.out.2.2.2.1.keep J11.out.1, I11.out.2.2.2.2.1.keep J11.out.1, I11.out.2.2.2.2.2.1.keep J11.out.1, I11.out.2.2.2.2.2.2.keep J11.out.1, J11.out.2.1, J11.out.2.2⟩
  clear J10 J11 K9 D1 D2
  obtain ⟨ca0, ca1, cas⟩ := I12.out.2.1.cells
  obtain ⟨cb0, cb1, cbs⟩ := I12.out.2.2.1.cells
  obtain ⟨cn0, cn1, cns⟩ := I12.out.2.2.2.2.1.cells
  obtain ⟨ct0, ct1, cts⟩ := I12.out.2.2.2.2.2.2.1.cells
  go_wp2_with fail
  refine (dist_at hn I12.out.2.2.2.2.1.arcs (good_norm HX.out.1)).mono ?_
  rintro e w12 ⟨dc, rc, rfl, hM, h⟩
  rw [← dist_norm (fine_good HX.out.1)] at hM
  clear ca0 ca1 cas cb0 cb1 cbs cn0 cn1 cns ct0 ct1 cts
  have I13 : Hid (Below w.heap.size w w12 ∧ Gr w12 w.heap.size n ao qa ca xs ∧ Gr w12 (w.heap.size + 1) m bo qb cb ys ∧ HasArcs w12 (.slice (some ⟨nk, 0, none⟩) (normA xs).length nc) (normA xs) ∧ Gr w12 nb n (some ⟨nk, 0, none⟩) (normA xs).length nc (normA xs) ∧ HasArcs w12 (.slice tp tn tc) (xs.map turn) ∧ Gr w12 tb n tp tn tc (xs.map turn) ∧ (∃ B, MatP B w12 da n n ra (dist n xs)) ∧ (∃ B, MatP B w12 db n n rb (dist n (xs.map turn))) ∧ (∃ B, MatP B w12 dc n n rc (dist n xs))) := ⟨I12.out.1.trans (h.mono I12.out.1.size), I12.out.2.1.keep h, I12.out.2.2.1.keep h, I12.out.2.2.2.1.keep h, I12.out.2.2.2.2.1.keep h, I12.out.2.2.2.2.2.1.keep h, I12.out.2.2.2.2.2.2.1.keep h, ⟨_, I12.out.2.2.2.2.2.2.2.1.choose_spec.keep h⟩, ⟨_, I12.out.2.2.2.2.2.2.2.2.choose_spec.keep h⟩, ⟨_, hM⟩⟩
  clear h hM
  obtain ⟨ca0, ca1, cas⟩ := I13.out.2.1.cells
  obtain ⟨cb0, cb1, cbs⟩ := I13.out.2.2.1.cells
  obtain ⟨cn0, cn1, cns⟩ := I13.out.2.2.2.2.1.cells
  obtain ⟨ct0, ct1, cts⟩ := I13.out.2.2.2.2.2.2.1.cells
  go_wp2_with fail
  refine (sameMatrix_yes n da dc ra rc _ _ hn I13.out.2.2.2.2.2.2.2.1.choose_spec I13.out.2.2.2.2.2.2.2.2.2.choose_spec).mono ?_
  rintro e w13 ⟨rfl, h⟩
  clear ca0 ca1 cas cb0 cb1 cbs cn0 cn1 cns ct0 ct1 cts
  have I14 : Hid (Below w.heap.size w w13 ∧ Gr w13 w.heap.size n ao qa ca xs ∧ Gr w13 (w.heap.size + 1) m bo qb cb ys ∧ HasArcs w13 (.slice (some ⟨nk, 0, none⟩) (normA xs).length nc) (normA xs) ∧ Gr w13 nb n (some ⟨nk, 0, none⟩) (normA xs).length nc (normA xs) ∧ HasArcs w13 (.slice tp tn tc) (xs.map turn) ∧ Gr w13 tb n tp tn tc (xs.map turn) ∧ (∃ B, MatP B w13 da n n ra (dist n xs)) ∧ (∃ B, MatP B w13 db n n rb (dist n (xs.map turn))) ∧ (∃ B, MatP B w13 dc n n rc (dist n xs))) := ⟨I13.out.1.trans (h.mono I13.out.1.size), I13.out.2.1.keep h, I13.out.2.2.1.keep h, I13.out.2.2.2.1.keep h, I13.out.2.2.2.2.1.keep h, I13.out.2.2.2.2.2.1.keep h, I13.out.2.2.2.2.2.2.1.keep h, ⟨_, I13.out.2.2.2.2.2.2.2.1.choose_spec.keep h⟩, ⟨_, I13.out.2.2.2.2.2.2.2.2.1.choose_spec.keep h⟩, ⟨_, I13.out.2.2.2.2.2.2.2.2.2.choose_spec.keep h⟩⟩
  clear h
  obtain ⟨ca0, ca1, cas⟩ := I14.out.2.1.cells
  obtain ⟨cb0, cb1, cbs⟩ := I14.out.2.2.1.cells
  obtain ⟨cn0, cn1, cns⟩ := I14.out.2.2.2.2.1.cells
  obtain ⟨ct0, ct1, cts⟩ := I14.out.2.2.2.2.2.2.1.cells
  go_wp2_with fail
  clear ca0 ca1 cas cb0 cb1 cbs cn0 cn1 cns ct0 ct1 cts
  generalize hV : w13 = V13 at *
  clear hV
  go_loopw [81] (fun iv wr => ∃ i : Nat, i ≤ n ∧ iv = .int .i64 i ∧ Below V13.heap.size V13 wr) (fun iv _ => n - (intOf iv).toNat)
  case atStart => exact ⟨0, Nat.zero_le _, rfl, Below.refl _ _⟩
  case round =>
    obtain ⟨i, hi, rfl, hB⟩ := hrel
    have HB : Hid (Below V13.heap.size V13 wr) := hB
    clear hB
    by_cases hil : i < n
    · generalize hV : wr = V14 at *
      clear hV
      go_wp2_with fail
      go_loopw [86] (fun iv wr => ∃ j : Nat, j ≤ n ∧ iv = .int .i64 j ∧ Below V13.heap.size V13 wr) (fun iv _ => n - (intOf iv).toNat)
      case atStart => exact ⟨0, Nat.zero_le _, rfl, HB.out⟩
      case round =>
        obtain ⟨j, hj, rfl, hB⟩ := hrel
        have HB2 : Hid (Below V13.heap.size V13 wr) := hB
        by_cases hjl : j < n
        · obtain ⟨B1, hM1⟩ : ∃ B, MatP B wr da n n ra (dist n xs) := ⟨_, I14.out.2.2.2.2.2.2.2.1.choose_spec.keep hB⟩
          obtain ⟨B2, hM2⟩ : ∃ B, MatP B wr db n n rb (dist n (xs.map turn)) := ⟨_, I14.out.2.2.2.2.2.2.2.2.1.choose_spec.keep hB⟩
          obtain ⟨t0, _, _⟩ := hM1.at (i := i) hil (Nat.le_refl _)
          obtain ⟨t1, _, _⟩ := hM1.cell (i := i) (j := j) hil hjl
          obtain ⟨t2, _, _⟩ := hM2.at (i := j) hjl (Nat.le_refl _)
          obtain ⟨t3, _, _⟩ := hM2.cell (i := j) (j := i) hjl hil
          rw [dist_turn] at t3
          have i0 : (0 : Int) ≤ (i : Int) := by omega
          have i1 : (i : Int) < (n : Int) := by omega
          have j0 : (0 : Int) ≤ (j : Int) := by omega
          have j1 : (j : Int) < (n : Int) := by omega
          clear hB hM1 hM2
          generalize dist n xs i j = val at *
          generalize ra i = xa at *
          generalize rb j = xb at *
          go_wp2_with fail
          go_quiet (fail)
          go_wp2
          go_roundw
          case rel => exact ⟨j + 1, by omega, by go_num, below_draws' HB2.out _⟩
          case measure => simp [intOf]; omega
        · obtain rfl : n = j := by omega
          clear hB
          go_wp2
          exact ⟨⟨i + 1, by omega, by go_num, HB2.out⟩, by simp [intOf]; omega⟩
    · obtain rfl : n = i := by omega
      generalize hV : wr = w14 at *
      clear hV
      have h14 := HB.out
      have I15 : Hid (Below w.heap.size w w14 ∧ Gr w14 w.heap.size n ao qa ca xs ∧ Gr w14 (w.heap.size + 1) m bo qb cb ys ∧ HasArcs w14 (.slice (some ⟨nk, 0, none⟩) (normA xs).length nc) (normA xs) ∧ Gr w14 nb n (some ⟨nk, 0, none⟩) (normA xs).length nc (normA xs) ∧ HasArcs w14 (.slice tp tn tc) (xs.map turn) ∧ Gr w14 tb n tp tn tc (xs.map turn) ∧ (∃ B, MatP B w14 da n n ra (dist n xs)) ∧ (∃ B, MatP B w14 db n n rb (dist n (xs.map turn))) ∧ (∃ B, MatP B w14 dc n n rc (dist n xs))) := ⟨I14.out.1.trans (h14.mono I14.out.1.size), I14.out.2.1.keep h14, I14.out.2.2.1.keep h14, I14.out.2.2.2.1.keep h14, I14.out.2.2.2.2.1.keep h14, I14.out.2.2.2.2.2.1.keep h14, I14.out.2.2.2.2.2.2.1.keep h14, ⟨_, I14.out.2.2.2.2.2.2.2.1.choose_spec.keep h14⟩, ⟨_, I14.out.2.2.2.2.2.2.2.2.1.choose_spec.keep h14⟩, ⟨_, I14.out.2.2.2.2.2.2.2.2.2.choose_spec.keep h14⟩⟩
      clear h14 HB
      obtain ⟨ca0, ca1, cas⟩ := I15.out.2.1.cells
      obtain ⟨cb0, cb1, cbs⟩ := I15.out.2.2.1.cells
      obtain ⟨cn0, cn1, cns⟩ := I15.out.2.2.2.2.1.cells
      obtain ⟨ct0, ct1, cts⟩ := I15.out.2.2.2.2.2.2.1.cells
      by_cases hnm : n = m
      · subst hnm
        go_wp2_with fail
        refine (merge_any I15.out.2.1.arcs I15.out.2.2.1.arcs HX.out.2.2.1 HX.out.2.2.2 (by unfold maxLen; have := HXL.out; omega) (by unfold maxLen; have := HXL.out; omega) (both_ok HX.out.1 HX.out.2.1 (by have := HXL.out; omega)) (fun _ => by have := HXL.out; omega)).mono ?_
        rintro e w15 ⟨K, mo, mq, mc, v, zs, rfl, hA, hT, hO, h⟩
        obtain ⟨_, rfl, rfl⟩ : (0, []) = ((0, []) : Int × List (Int × Int)) ∧ K = n ∧ zs = xs ++ ys := by
          rcases hO with h | h
          · exact h
          · exact absurd rfl h.1
        have hv := told_ok hT
        subst hv
        clear ca0 ca1 cas cb0 cb1 cbs cn0 cn1 cns ct0 ct1 cts
        have I16 : Hid (Below w.heap.size w w15 ∧ Gr w15 w.heap.size n ao qa ca xs ∧ Gr w15 (w.heap.size + 1) n bo qb cb ys ∧ HasArcs w15 (.slice (some ⟨nk, 0, none⟩) (normA xs).length nc) (normA xs) ∧ Gr w15 nb n (some ⟨nk, 0, none⟩) (normA xs).length nc (normA xs) ∧ HasArcs w15 (.slice tp tn tc) (xs.map turn) ∧ Gr w15 tb n tp tn tc (xs.map turn) ∧ (∃ B, MatP B w15 da n n ra (dist n xs)) ∧ (∃ B, MatP B w15 db n n rb (dist n (xs.map turn))) ∧ (∃ B, MatP B w15 dc n n rc (dist n xs)) ∧ HasArcs w15 (.slice mo mq mc) (xs ++ ys)) := ⟨I15.out.1.trans (h.mono I15.out.1.size), I15.out.2.1.keep h, I15.out.2.2.1.keep h, I15.out.2.2.2.1.keep h, I15.out.2.2.2.2.1.keep h, I15.out.2.2.2.2.2.1.keep h, I15.out.2.2.2.2.2.2.1.keep h, ⟨_, I15.out.2.2.2.2.2.2.2.1.choose_spec.keep h⟩, ⟨_, I15.out.2.2.2.2.2.2.2.2.1.choose_spec.keep h⟩, ⟨_, I15.out.2.2.2.2.2.2.2.2.2.choose_spec.keep h⟩, hA⟩
        clear h hA hT hO
        obtain ⟨ca0, ca1, cas⟩ := I16.out.2.1.cells
        obtain ⟨cb0, cb1, cbs⟩ := I16.out.2.2.1.cells
        obtain ⟨cn0, cn1, cns⟩ := I16.out.2.2.2.2.1.cells
        obtain ⟨ct0, ct1, cts⟩ := I16.out.2.2.2.2.2.2.1.cells
        go_wp2_with fail
        generalize hL : w15.alloc (.cells #[.int .i64 n, .slice mo mq mc] 24) = W15
        obtain ⟨hGr, hB⟩ := Gr.new (n : Int) I16.out.2.2.2.2.2.2.2.2.2.2
        rw [hL] at hGr hB
        have M15 : Hid (Gr W15 w15.heap.size n mo mq mc (xs ++ ys) ∧ Below w15.heap.size w15 W15) := ⟨hGr, hB⟩
        clear hL hGr hB
        clear ca0 ca1 cas cb0 cb1 cbs cn0 cn1 cns ct0 ct1 cts
        refine (of_good M15.out.1.arcs (good_append HX.out.1 HX.out.2.1 (by have := HXL.out; omega))).mono ?_
        rintro e w16 ⟨zo, zq, zc, rfl, hA, h⟩
        have M16 : Hid (Gr w16 w15.heap.size n mo mq mc (xs ++ ys) ∧ Below w15.heap.size w15 w16 ∧ HasArcs w16 (.slice zo zq zc) (normA (xs ++ ys))) := ⟨M15.out.1.keep h, M15.out.2.trans (h.mono M15.out.2.size), hA⟩
        clear h hA
        obtain ⟨cm0, cm1, cms⟩ := M16.out.1.cells
        have cz0 : w16.frozen? ⟨w15.heap.size, 0, none⟩ = false := (row_cell M16.out.1.box 0).2
        have cz1 : w16.frozen? ⟨w15.heap.size, 1, none⟩ = false := (row_cell M16.out.1.box 1).2
        have H16 : Hid (Below w.heap.size w w16 ∧ Gr w16 w.heap.size n ao qa ca xs ∧ Gr w16 (w.heap.size + 1) n bo qb cb ys ∧ HasArcs w16 (.slice (some ⟨nk, 0, none⟩) (normA xs).length nc) (normA xs) ∧ Gr w16 nb n (some ⟨nk, 0, none⟩) (normA xs).length nc (normA xs) ∧ HasArcs w16 (.slice tp tn tc) (xs.map turn) ∧ Gr w16 tb n tp tn tc (xs.map turn) ∧ (∃ B, MatP B w16 da n n ra (dist n xs)) ∧ (∃ B, MatP B w16 db n n rb (dist n (xs.map turn))) ∧ (∃ B, MatP B w16 dc n n rc (dist n xs)) ∧ HasArcs w16 (.slice mo mq mc) (xs ++ ys)) := ⟨I16.out.1.trans (M16.out.2.1.mono I16.out.1.size), I16.out.2.1.keep M16.out.2.1, I16.out.2.2.1.keep M16.out.2.1, I16.out.2.2.2.1.keep M16.out.2.1, I16.out.2.2.2.2.1.keep M16.out.2.1, I16.out.2.2.2.2.2.1.keep M16.out.2.1, I16.out.2.2.2.2.2.2.1.keep M16.out.2.1, ⟨_, I16.out.2.2.2.2.2.2.2.1.choose_spec.keep M16.out.2.1⟩, ⟨_, I16.out.2.2.2.2.2.2.2.2.1.choose_spec.keep M16.out.2.1⟩, ⟨_, I16.out.2.2.2.2.2.2.2.2.2.1.choose_spec.keep M16.out.2.1⟩, I16.out.2.2.2.2.2.2.2.2.2.2.keep M16.out.2.1⟩
        obtain ⟨ca0, ca1, cas⟩ := H16.out.2.1.cells
        obtain ⟨cb0, cb1, cbs⟩ := H16.out.2.2.1.cells
        obtain ⟨cn0, cn1, cns⟩ := H16.out.2.2.2.2.1.cells
        obtain ⟨ct0, ct1, cts⟩ := H16.out.2.2.2.2.2.2.1.cells
        have ne1 : w.heap.size ≠ w15.heap.size := by have := lt_of_get I16.out.2.1.box; omega
        have ne2 : w.heap.size + 1 ≠ w15.heap.size := by have := lt_of_get I16.out.2.2.1.box; omega
        have ne3 : nb ≠ w15.heap.size := by have := lt_of_get I16.out.2.2.2.2.1.box; omega
        go_wp2_with fail
        generalize hL : (w16.setCell ⟨w15.heap.size, 0, none⟩ (.int .i64 n)).setCell ⟨w15.heap.size, 1, none⟩ (.slice zo zq zc) = W16
        have hB : Below w15.heap.size w15 W16 := by rw [← hL]; exact (M16.out.2.1.setCell (p := ⟨w15.heap.size, 0, none⟩) (Nat.le_refl _) _).setCell (p := ⟨w15.heap.size, 1, none⟩) (Nat.le_refl _) _
        have hGr : Gr W16 w15.heap.size n zo zq zc (normA (xs ++ ys)) := by
          rw [← hL]
          exact ⟨by rw [hs_same _ (hs_same _ M16.out.1.box)]; rfl, M16.out.2.2.lay M16.out.1.box _ _⟩
        clear ca0 ca1 cas cb0 cb1 cbs cn0 cn1 cns ct0 ct1 cts
        clear cm0 cm1 cms cz0 cz1
        have I17 : Hid (Below w.heap.size w W16 ∧ Gr W16 w.heap.size n ao qa ca xs ∧ Gr W16 (w.heap.size + 1) n bo qb cb ys ∧ HasArcs W16 (.slice (some ⟨nk, 0, none⟩) (normA xs).length nc) (normA xs) ∧ Gr W16 nb n (some ⟨nk, 0, none⟩) (normA xs).length nc (normA xs) ∧ HasArcs W16 (.slice tp tn tc) (xs.map turn) ∧ Gr W16 tb n tp tn tc (xs.map turn) ∧ (∃ B, MatP B W16 da n n ra (dist n xs)) ∧ (∃ B, MatP B W16 db n n rb (dist n (xs.map turn))) ∧ (∃ B, MatP B W16 dc n n rc (dist n xs)) ∧ HasArcs W16 (.slice mo mq mc) (xs ++ ys) ∧ Gr W16 w15.heap.size n zo zq zc (normA (xs ++ ys))) := ⟨I16.out.1.trans (hB.mono I16.out.1.size), I16.out.2.1.keep hB, I16.out.2.2.1.keep hB, I16.out.2.2.2.1.keep hB, I16.out.2.2.2.2.1.keep hB, I16.out.2.2.2.2.2.1.keep hB, I16.out.2.2.2.2.2.2.1.keep hB, ⟨_, I16.out.2.2.2.2.2.2.2.1.choose_spec.keep hB⟩, ⟨_, I16.out.2.2.2.2.2.2.2.2.1.choose_spec.keep hB⟩, ⟨_, I16.out.2.2.2.2.2.2.2.2.2.1.choose_spec.keep hB⟩, I16.out.2.2.2.2.2.2.2.2.2.2.keep hB, hGr⟩
        clear hL hB hGr M15 M16 H16
        generalize w15.heap.size = mb at *
        obtain ⟨ca0, ca1, cas⟩ := I17.out.2.1.cells
        obtain ⟨cb0, cb1, cbs⟩ := I17.out.2.2.1.cells
        obtain ⟨cn0, cn1, cns⟩ := I17.out.2.2.2.2.1.cells
        obtain ⟨ct0, ct1, cts⟩ := I17.out.2.2.2.2.2.2.1.cells
        obtain ⟨cm0, cm1, cms⟩ := I17.out.2.2.2.2.2.2.2.2.2.2.2.cells
        refine (of_good I17.out.2.2.1.arcs HX.out.2.1).mono ?_
        rintro e w17 ⟨oo, on, oc, rfl, hA, h⟩
        have hon := arcs_len hA
        subst hon
        clear ca0 ca1 cas cb0 cb1 cbs cn0 cn1 cns ct0 ct1 cts cm0 cm1 cms
        have I18 : Hid (Below w.heap.size w w17 ∧ Gr w17 w.heap.size n ao qa ca xs ∧ Gr w17 (w.heap.size + 1) n bo qb cb ys ∧ HasArcs w17 (.slice (some ⟨nk, 0, none⟩) (normA xs).length nc) (normA xs) ∧ Gr w17 nb n (some ⟨nk, 0, none⟩) (normA xs).length nc (normA xs) ∧ HasArcs w17 (.slice tp tn tc) (xs.map turn) ∧ Gr w17 tb n tp tn tc (xs.map turn) ∧ (∃ B, MatP B w17 da n n ra (dist n xs)) ∧ (∃ B, MatP B w17 db n n rb (dist n (xs.map turn))) ∧ (∃ B, MatP B w17 dc n n rc (dist n xs)) ∧ HasArcs w17 (.slice mo mq mc) (xs ++ ys) ∧ Gr w17 mb n zo zq zc (normA (xs ++ ys)) ∧ HasArcs w17 (.slice oo (normA ys).length oc) (normA ys)) := ⟨I17.out.1.trans (h.mono I17.out.1.size), I17.out.2.1.keep h, I17.out.2.2.1.keep h, I17.out.2.2.2.1.keep h, I17.out.2.2.2.2.1.keep h, I17.out.2.2.2.2.2.1.keep h, I17.out.2.2.2.2.2.2.1.keep h, ⟨_, I17.out.2.2.2.2.2.2.2.1.choose_spec.keep h⟩, ⟨_, I17.out.2.2.2.2.2.2.2.2.1.choose_spec.keep h⟩, ⟨_, I17.out.2.2.2.2.2.2.2.2.2.1.choose_spec.keep h⟩, I17.out.2.2.2.2.2.2.2.2.2.2.1.keep h, I17.out.2.2.2.2.2.2.2.2.2.2.2.keep h, hA⟩
        clear h hA
        obtain ⟨ca0, ca1, cas⟩ := I18.out.2.1.cells
        obtain ⟨cb0, cb1, cbs⟩ := I18.out.2.2.1.cells
        obtain ⟨cn0, cn1, cns⟩ := I18.out.2.2.2.2.1.cells
        obtain ⟨ct0, ct1, cts⟩ := I18.out.2.2.2.2.2.2.1.cells
        obtain ⟨cm0, cm1, cms⟩ := I18.out.2.2.2.2.2.2.2.2.2.2.2.1.cells
        have G17 : Hid (Gr (w17.alloc (.cells #[.int .i64 n, .slice oo (normA ys).length oc] 24)) w17.heap.size n oo (normA ys).length oc (normA ys) ∧ Below w17.heap.size w17 (w17.alloc (.cells #[.int .i64 n, .slice oo (normA ys).length oc] 24))) := Gr.new (n : Int) I18.out.2.2.2.2.2.2.2.2.2.2.2.2
        have N17 : Hid (HasArcs (w17.alloc (.cells #[.int .i64 n, .slice oo (normA ys).length oc] 24)) (.slice (some ⟨nk, 0, none⟩) (normA xs).length nc) (normA xs)) := I18.out.2.2.2.1.keep G17.out.2
        go_wp2_with (at_builtin; refine wpList_append_new rfl _ _ rfl rfl ⟨nk, 0, none⟩ nc (normA xs) rfl N17.out (by have := HXL.out; omega) ?_; intro sv0 w18 hR hgr; have M18 : Hid (RowAt w18 sv0 (normA xs) ∧ Gr w18 w17.heap.size n oo (normA ys).length oc (normA ys) ∧ Below w17.heap.size w17 w18) := ⟨hR, G17.out.1.keep hgr, G17.out.2.trans (hgr.mono G17.out.2.size)⟩; clear hR hgr; obtain ⟨o0, o1, os⟩ := M18.out.2.1.cells)
        clear ca0 ca1 cas cb0 cb1 cbs cn0 cn1 cns ct0 ct1 cts cm0 cm1 cms
        clear o0 o1 os
        have I19 : Hid (Below w.heap.size w w18 ∧ Gr w18 w.heap.size n ao qa ca xs ∧ Gr w18 (w.heap.size + 1) n bo qb cb ys ∧ HasArcs w18 (.slice (some ⟨nk, 0, none⟩) (normA xs).length nc) (normA xs) ∧ Gr w18 nb n (some ⟨nk, 0, none⟩) (normA xs).length nc (normA xs) ∧ HasArcs w18 (.slice tp tn tc) (xs.map turn) ∧ Gr w18 tb n tp tn tc (xs.map turn) ∧ (∃ B, MatP B w18 da n n ra (dist n xs)) ∧ (∃ B, MatP B w18 db n n rb (dist n (xs.map turn))) ∧ (∃ B, MatP B w18 dc n n rc (dist n xs)) ∧ HasArcs w18 (.slice mo mq mc) (xs ++ ys) ∧ Gr w18 mb n zo zq zc (normA (xs ++ ys)) ∧ HasArcs w18 (.slice oo (normA ys).length oc) (normA ys) ∧ Gr w18 w17.heap.size n oo (normA ys).length oc (normA ys)) := ⟨I18.out.1.trans (M18.out.2.2.mono I18.out.1.size), I18.out.2.1.keep M18.out.2.2, I18.out.2.2.1.keep M18.out.2.2, I18.out.2.2.2.1.keep M18.out.2.2, I18.out.2.2.2.2.1.keep M18.out.2.2, I18.out.2.2.2.2.2.1.keep M18.out.2.2, I18.out.2.2.2.2.2.2.1.keep M18.out.2.2, ⟨_, I18.out.2.2.2.2.2.2.2.1.choose_spec.keep M18.out.2.2⟩, ⟨_, I18.out.2.2.2.2.2.2.2.2.1.choose_spec.keep M18.out.2.2⟩, ⟨_, I18.out.2.2.2.2.2.2.2.2.2.1.choose_spec.keep M18.out.2.2⟩, I18.out.2.2.2.2.2.2.2.2.2.2.1.keep M18.out.2.2, I18.out.2.2.2.2.2.2.2.2.2.2.2.1.keep M18.out.2.2, I18.out.2.2.2.2.2.2.2.2.2.2.2.2.keep M18.out.2.2, M18.out.2.1⟩
        have R18 : Hid (RowAt w18 sv0 (normA xs)) := M18.out.1
        clear M18 N17 G17
        generalize w17.heap.size = ob at *
        generalize hV : w18 = V18 at *
        clear hV
        go_loopw [16, 146] (fun sv iv wr => ∃ k : Nat, k ≤ (normA ys).length ∧ iv = .int .i64 k ∧ RowAt wr sv (((normA ys).take k).foldl putA (normA xs)) ∧ Below V18.heap.size V18 wr) (fun _ iv _ => (normA ys).length - (intOf iv).toNat)
        case atStart => exact ⟨0, Nat.zero_le _, rfl, by rw [List.take_zero]; exact R18.out, Below.refl _ _⟩
        case round =>
          obtain ⟨k, hk, rfl, hR, hB⟩ := hrel
          have HB : Hid (Below V18.heap.size V18 wr) := hB
          clear R18
          by_cases hkl : k < (normA ys).length
          · obtain ⟨x, hx⟩ : ∃ x, (normA ys)[k]? = some x := ⟨(normA ys)[k], List.getElem?_eq_getElem hkl⟩
            obtain ⟨b, off, hoo, hbl, q0, q1, q2⟩ := ((I19.out.2.2.2.2.2.2.2.2.2.2.2.2.2).keep hB).arcs.at hx
            subst hoo
            have HT : Hid (((normA ys).take (k + 1)).foldl putA (normA xs) = putA (((normA ys).take k).foldl putA (normA xs)) x) := fold_step hx
            have HL : Hid ((((normA ys).take k).foldl putA (normA xs)).length ≤ 262144) := fold_small k HXL.out.2.2.1 (Nat.le_trans (normA_len ys) HXL.out.2.1)
            obtain ⟨x0, x1, x2⟩ := x
            simp only at q0 q1 q2
            obtain ⟨l2, hl2⟩ : ∃ l, ((normA ys).take (k + 1)).foldl putA (normA xs) = l := ⟨_, rfl⟩
            have HR2 : Hid (∀ wx v, RowAt wx v l2 → RowAt wx v (((normA ys).take (k + 1)).foldl putA (normA xs))) := fun wx v h => by rw [hl2]; exact h
            rw [hl2] at HT
            have HP := put_at3 hR HL.out x0 x1 x2 HT.out
            have HPH : Hid (type_of% HP) := HP
            clear HP hl2 HT
            have b0 : (0 : Int) ≤ (k : Int) := by omega
            have b1 : (k : Int) < ((normA ys).length : Int) := by omega
            have b2 : k < 2000 := Nat.lt_of_lt_of_le hkl (Nat.le_trans (normA_len ys) HXL.out.2.1)
            clear hB hR hx HL
            go_wp2_with fail
            refine (HPH.out _ ((Below.refl _ _).alloc (Nat.le_refl _) _)).mono ?_
            rintro e w19 ⟨v', rfl, hR, h⟩
            have H19 : Hid (RowAt w19 v' l2 ∧ Below V18.heap.size V18 w19) := ⟨hR, (HB.out.alloc HB.out.size _).trans (h.mono (by have := HB.out.size; simp; omega))⟩
            clear hR h HPH
            go_wp2
            go_roundw
            case rel => exact ⟨k + 1, by omega, by go_num, HR2.out _ _ H19.out.1, H19.out.2⟩
            case measure => simp [intOf]; omega
          · obtain rfl : k = (normA ys).length := by omega
            rw [List.take_length, ← norm_both] at hR
            obtain ⟨B, lo, lc, rfl, hrow, _⟩ := hR
            obtain ⟨m0, m1, ms⟩ := ((I19.out.2.2.2.2.2.2.2.2.2.2.2.1).keep hB).cells
            have HS : Hid (Calls Try.prog 14 #[.slice zo zq zc, .slice lo (normA (xs ++ ys)).length lc] wr fun e w' => e = .returned (.bool true) ∧ Below wr.heap.size wr w') := sameArcs_yes _ _ _ wr ((I19.out.2.2.2.2.2.2.2.2.2.2.2.1).keep hB).arcs (arcs_of_rowC hrow) (by unfold maxLen; have := HXL.out; have := normA_len (xs ++ ys); rw [List.length_append] at this; omega)
            have HBB : Hid (Below w.heap.size w wr) := (I19.out.1).trans (hB.mono (I19.out.1).size)
            clear hB hrow
            go_wp2_with fail
            refine HS.out.mono ?_
            rintro e w20 ⟨rfl, h⟩
            have H20 : Hid (Below w.heap.size w w20) := HBB.out.trans (h.mono HBB.out.size)
            clear h
            go_wp2
            go_ret
            exact ⟨rfl, H20.out⟩
      · go_wp2_with fail
        refine (merge_any I15.out.2.1.arcs I15.out.2.2.1.arcs HX.out.2.2.1 HX.out.2.2.2 (by unfold maxLen; have := HXL.out; omega) (by unfold maxLen; have := HXL.out; omega) (both_ne HX.out.1 HX.out.2.1 hnm) (fun h => by cases h)).mono ?_
        rintro e w15 ⟨K, mo, mq, mc, v, zs, rfl, _, hT, _, h⟩
        obtain ⟨T, x, rfl⟩ := told_iface hT (by intro h; cases h)
        clear ca0 ca1 cas cb0 cb1 cbs cn0 cn1 cns ct0 ct1 cts
        have I20 : Hid (Below w.heap.size w w15 ∧ Gr w15 w.heap.size n ao qa ca xs ∧ Gr w15 (w.heap.size + 1) m bo qb cb ys ∧ HasArcs w15 (.slice (some ⟨nk, 0, none⟩) (normA xs).length nc) (normA xs) ∧ Gr w15 nb n (some ⟨nk, 0, none⟩) (normA xs).length nc (normA xs) ∧ HasArcs w15 (.slice tp tn tc) (xs.map turn) ∧ Gr w15 tb n tp tn tc (xs.map turn) ∧ (∃ B, MatP B w15 da n n ra (dist n xs)) ∧ (∃ B, MatP B w15 db n n rb (dist n (xs.map turn))) ∧ (∃ B, MatP B w15 dc n n rc (dist n xs))) := ⟨I15.out.1.trans (h.mono I15.out.1.size), I15.out.2.1.keep h, I15.out.2.2.1.keep h, I15.out.2.2.2.1.keep h, I15.out.2.2.2.2.1.keep h, I15.out.2.2.2.2.2.1.keep h, I15.out.2.2.2.2.2.2.1.keep h, ⟨_, I15.out.2.2.2.2.2.2.2.1.choose_spec.keep h⟩, ⟨_, I15.out.2.2.2.2.2.2.2.2.1.choose_spec.keep h⟩, ⟨_, I15.out.2.2.2.2.2.2.2.2.2.choose_spec.keep h⟩⟩
        clear h hT
        obtain ⟨ca0, ca1, cas⟩ := I20.out.2.1.cells
        obtain ⟨cb0, cb1, cbs⟩ := I20.out.2.2.1.cells
        obtain ⟨cn0, cn1, cns⟩ := I20.out.2.2.2.2.1.cells
        obtain ⟨ct0, ct1, cts⟩ := I20.out.2.2.2.2.2.2.1.cells
        have hne : ((n : Int) == (m : Int)) = false := by simp; omega
        have hne2 : ((n : Int) != (m : Int)) = true := by simp; omega
        have HBB : Hid (Below w.heap.size w (w15.alloc (.cells #[.int .i64 K, .slice mo mq mc] 24))) := I20.out.1.alloc I20.out.1.size _
        go_wp2
        go_ret
        exact ⟨rfl, HBB.out⟩
end Go.Proofs.Ytldfhkdccbgdnaa
