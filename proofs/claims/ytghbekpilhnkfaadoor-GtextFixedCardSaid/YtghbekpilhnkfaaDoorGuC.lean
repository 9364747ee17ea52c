/- the reference's DocPrint, walked. (genuc.py) -/
import Derived.Test.YtghbekpilhnkfaaDoorGuB
import Derived.Test.YtghbekpilhnkfaaDoorGuL
import Derived.Test.YtghbekpilhnkfaaDoorHdM
import Derived.Lib.AppendStr
import Derived.Laws.IdiomStrings
namespace Go.Proofs.YtghbekpilhnkfaaDoor.Gt
open Go Go.Lib Go.RowKit Go.Extern Hi

attribute [local go_sem] Oper.semAt_some

theorem wp_append_str {P : Program} (w : World) {o : Oper} {a : Act} {K : Act → World → Prop} {Q : Exit → Act → World → Prop} (sl x : Operand) (t u : TypeId)
    (ho : o.op = .call { callee := .builtin .append, args := #[sl, x], argTypes := #[t, u] })
    (base : Nat) (e : TypeId) (i : TypeInfo) (ht : P.underlying t = some (.slice e)) (hu : P.underlying u = some .string) (hi : P.info? e = some i) (hz : i.zero = some (.int .u8 0))
    (hsize : i.size = 1) (hby : i.bytes = 1)
    (v : Value) (n : Nat) (xs : List Value) (hs : a.eval sl = v) (hown : w.ownsRow base e 1 v n xs) (s : ByteArray) (hx : a.eval x = .string s)
    (h63 : n + s.size ≤ maxLen) (hbytes : n + s.size ≤ 140737488355328) (hbase : base ≤ w.heap.size)
    (h : ∀ v' w', w'.ownsRow base e 1 v' (n + s.size) (xs ++ strCells s) → w.grownBy w' v.ownBlock → K (a.put o.dst v') w') : Oper.wp P o a w K Q := by
  obtain ⟨v', w', hr, h2, h3, h4⟩ := run_append_own_string (P := P) w base t u o.type e i ht hu hi hz hsize hby v n xs hown s h63 hbytes hbase
  unfold Oper.wp execOp
  simp only [ho, resolve, invoke, builtin, Sem.run_bind, Sem.run_pure, Result.andThen_ok, List.map_toArray, List.map_cons, List.map_nil, hs, hx, hr]
  exact h v' w' h2 h3
theorem bs_cat (a b : ByteArray) : bs (a ++ b) = bs a ++ bs b := by
  unfold bs
  rw [ByteArray.data_append, Array.toList_append]
theorem infoU8 : (Tryd.prog.info? 5).map (fun i => (i.zero, i.size, i.bytes)) = some (some (.int .u8 0), 1, 1) := by kernel_rfl
/-- bytes of one's own. -/
def Own8 (B : Nat) (w0 w : World) (v : Value) (L : By) : Prop := Below B w0 w ∧ w.ownsRow B 5 1 v L.length (byteCells L)
theorem Own8.up {B : Nat} {w0 w w' : World} {v : Value} {L : By} (h : Own8 B w0 w v L) (hB : B ≤ w.heap.size) (hb : Below w.heap.size w w') : Own8 B w0 w' v L := by
  refine ⟨h.1.trans (hb.mono hB), h.2.1, ?_⟩
  rcases h.2.2 with ⟨e, h0⟩ | ⟨g, cap, cur, e, hg, hh, r⟩
  · exact Or.inl ⟨e, h0⟩
  · exact Or.inr ⟨g, cap, cur, e, hg, (hb.block g (Array.getElem?_eq_some_iff.1 hh).1).trans hh, r⟩
theorem Own8.add {B : Nat} {w0 w w' : World} {v v' : Value} {L : By} {s : ByteArray} (h : Own8 B w0 w v L) (hB : B ≤ w.heap.size) (ho : w'.ownsRow B 5 1 v' (L.length + s.size) (byteCells L ++ strCells s)) (hg : w.grownBy w' v.ownBlock) : Own8 B w0 w' v' (L ++ bs s) := by
  refine ⟨h.1.trans ?_, ?_⟩
  · refine (Below.refl B w).grown hg hB fun k hk => ?_
    rcases h.2.2 with ⟨e, h0⟩ | ⟨g, cap, cur, e, hgB, hh, r⟩
    · rw [e] at hk; cases hk
    · rw [e] at hk
      have : g = k := by simpa [Value.ownBlock] using hk
      omega
  · rw [List.length_append, byteCells_append, bs_len]
    exact ho
theorem own8_kept {B : Nat} {w0 w w' : World} {v : Value} {L : By} {j : Nat} {c : Array Value} {T : TypeId} (h : Own8 B w0 w v L) (hg : w.grownBy w' v.ownBlock) (hj : w.heap[j]? = some (.cells c T)) (hT : T ≠ 5) : w'.heap[j]? = some (.cells c T) := by
  have hlt := (Array.getElem?_eq_some_iff.1 hj).1
  rw [hg.block j hlt ?_]
  · exact hj
  · rcases h.2.2 with ⟨e, h0⟩ | ⟨g, cap, cur, e, hgB, hh, r⟩
    · rw [e]; simp [Value.ownBlock]
    · rw [e]
      intro q
      have q2 : j = g := by simpa [Value.ownBlock] using q
      subst q2
      rw [hh] at hj
      injection hj with hj
      injection hj with _ hj
      exact hT hj.symm
theorem prL_ne (N : Int) (xs : List Arc3) : prL N xs ≠ [] := by
  rw [← pfx_end]
  intro e
  have := congrArg List.length e
  simp [rowL, ewd] at this
/-- bytes of one's own, as a string. -/
theorem bytes_back {B : Nat} {w0 w : World} {v : Value} {L : By} (h : Own8 B w0 w v L) (hne : L ≠ []) : ∃ g cap, v = .slice (some ⟨g, 0, none⟩) L.length cap ∧ (convert 56 9 v).run Tryd.prog w = .ok (.string ⟨L.toArray⟩) w := by
  rcases h.2.2 with ⟨e, h0⟩ | ⟨g, cap, cur, e, hg, hh, r⟩
  · exact absurd (List.eq_nil_of_length_eq_zero h0) hne
  · refine ⟨g, cap, e, ?_⟩
    rw [e]
    refine run_convert_bytes_back w 56 9 5 ⟨g, 0, none⟩ cap L Tryd.underlying56 Tryd.underlying5 Tryd.underlying9 fun j hj => ?_
    have := h.2.cells (g := g) (by rw [e]; rfl) j (.int .u8 (L[j].toNat : Int)) (by simp [byteCells, List.getElem?_eq_getElem hj])
    exact this
theorem dpr_res {W : World} {z : Nat} {v x0 x1 : Value} {tmps : Array Value} (h1 : W.heap[z]? = some (.cells #[x0, x1] 32)) (t2 : tmps[3]?.getD undef = .pointer (some ⟨z, 0, none⟩)) (t3 : tmps[2]?.getD undef = v) :
    (results Tryd.f11 tmps).run Tryd.prog W = .ok (.tuple #[v, .agg #[x0, x1]]) W := by
  have c0 : W.cell? ⟨z, 0, none⟩ = some x0 := by simp [World.cell?, h1]
  have c1 : W.cell? ⟨z, 1, none⟩ = some x1 := by simp [World.cell?, h1]
  simp [results, Tryd.results11, go_sem, t2, t3, c0, c1]
/-- places do not lie in a box of an error. -/
theorem pl_offG {w : World} {b : Nat} {x : Int} {s1 : Option Addr} {s2 s3 k c : Nat} {lo : Option Addr} {T : TypeId} {ps : List (Int × Int)} (hz : w.heap[b]? = some (.cells #[.int .i64 x, .slice s1 s2 s3] T)) (hp : HasPlaces w (.slice lo k c) ps) (hne : ps ≠ []) : ∀ a, lo = some a → a.block ≠ b := by
  obtain ⟨ao, cap, e, hc⟩ := hp
  injection e with e1 _ _
  subst e1
  intro a ea eb
  obtain ⟨p, qs, rfl⟩ := List.exists_cons_of_ne_nil hne
  obtain ⟨b', off, e1, _, q0, q1⟩ := hc 0 p rfl
  rw [ea] at e1
  cases e1
  subst eb
  simp only [World.cell?, hz, Nat.zero_mul, Nat.add_zero] at q0 q1
  rcases off with _ | _ | off
  · simp at q1
  · simp at q0
  · simp at q0
theorem pl_setsG {wx : World} {b : Nat} {x : Int} {s1 : Option Addr} {s2 s3 : Nat} {T : TypeId} {F : Int × List (Int × Int)} {fo : Option Addr} {fc : Nat} (hz : wx.heap[b]? = some (.cells #[.int .i64 x, .slice s1 s2 s3] T)) (hp : HasPlaces wx (.slice fo F.2.length fc) F.2) (u y : Value) : HasPlaces ((wx.setCell ⟨b, 0, none⟩ u).setCell ⟨b, 1, none⟩ y) (.slice fo F.2.length fc) F.2 := by
  by_cases hF : F.2 = []
  · rw [hF] at hp ⊢
    obtain ⟨ao, cap, e, _⟩ := hp
    exact ⟨ao, cap, e, fun j p hj => by simp at hj⟩
  · obtain ⟨ao, cap, e, hc⟩ := hp
    injection e with e1 _ e3
    subst e1 e3
    refine ⟨fo, fc, rfl, fun j p hj => ?_⟩
    obtain ⟨b', off, ea, hl, q0, q1⟩ := hc j p hj
    have hne := pl_offG hz ⟨fo, fc, rfl, hc⟩ hF _ ea
    have k : ∀ m, ((wx.setCell ⟨b, 0, none⟩ u).setCell ⟨b, 1, none⟩ y).cell? ⟨b', m, none⟩ = wx.cell? ⟨b', m, none⟩ := fun m => by
      have e9 : ((wx.setCell ⟨b, 0, none⟩ u).setCell ⟨b, 1, none⟩ y).heap[b']? = wx.heap[b']? := (Below.heap_setCell _ _ _ _ (by exact hne)).trans (Below.heap_setCell _ _ _ _ (by exact hne))
      simp only [World.cell?, e9]
    exact ⟨b', off, ea, by simpa [World.setCell] using hl, (k _).trans q0, (k _).trans q1⟩
def DrPA (N : Int) (xs : List Arc3) (w : World) (e : Ending) (w' : World) : Prop := ∃ (s : ByteArray) (lo : Option Addr) (lc : Nat), e = .returned (.tuple #[.string s, .agg #[.int .i64 (graphErr N xs).1, .slice lo (graphErr N xs).2.length lc]]) ∧ bs s = prS N xs ∧ HasPlaces w' (.slice lo (graphErr N xs).2.length lc) (graphErr N xs).2 ∧ Below w.heap.size w w'
theorem graphErr_bad {N : Int} {xs : List Arc3} (h : graphErr N xs ≠ (0, [])) : (graphErr N xs).1 ≠ 0 := by
  unfold graphErr at h ⊢
  split
  · decide
  · rename_i h1
    rw [if_neg h1] at h
    split
    · rename_i h2
      rw [h2] at h
      exact absurd rfl h
    · rename_i h2
      exact firstBad_ne h2
theorem head_txt (N : Int) (xs : List Arc3) {s t : ByteArray} (hs : bs s = itoa N) (ht : bs t = itoa (xs.length : Int)) : bs ((((⟨#[103, 114, 97, 112, 104, 32]⟩ : ByteArray) ++ s) ++ ⟨#[32]⟩) ++ t ++ ⟨#[10]⟩) = pfx N xs 0 := by
  rw [bs_cat, bs_cat, bs_cat, bs_cat, hs, ht, pfx_zero]
  show [103, 114, 97, 112, 104, 32] ++ itoa N ++ [32] ++ itoa (xs.length : Int) ++ [10] = _
  simp [rowL, numL, gwd]
theorem arc_txt (a : Arc3) {s t u : ByteArray} (hs : bs s = itoa a.1) (ht : bs t = itoa a.2.1) (hu : bs u = itoa a.2.2) : bs ((((((⟨#[97, 114, 99, 32]⟩ : ByteArray) ++ s) ++ ⟨#[32]⟩) ++ t) ++ ⟨#[32]⟩) ++ u ++ ⟨#[10]⟩) = rowL awd (arcNs a) := by
  rw [bs_cat, bs_cat, bs_cat, bs_cat, bs_cat, bs_cat, hs, ht, hu]
  show [97, 114, 99, 32] ++ itoa a.1 ++ [32] ++ itoa a.2.1 ++ [32] ++ itoa a.2.2 ++ [10] = _
  simp [rowL, numL, awd, arcNs]

set_option maxRecDepth 100000 in
set_option maxHeartbeats 8000000 in
theorem docPrint_calls (N : Int) (ao : Option Addr) (cap : Nat) (xs : List Arc3) (w : World) (hl : HasArcs w (.slice ao xs.length cap) xs) (hm : xs.length ≤ maxLen) (hT : TabW w) :
    Calls Tryd.prog 11 #[.agg #[.int .i64 N, .slice ao xs.length cap]] w (DrPA N xs w) := by
  obtain ⟨z, hz⟩ : ∃ z, w.heap.size = z := ⟨_, rfl⟩
  obtain ⟨z2, hz2⟩ : ∃ z2, z + 1 = z2 := ⟨_, rfl⟩
  obtain ⟨W1, hW1⟩ : ∃ W1, (w.alloc (.cells #[.int .i64 N, .slice ao xs.length cap] 24)).alloc (.cells #[.int .i64 0, .slice none 0 0] 32) = W1 := ⟨_, rfl⟩
  have HW1 : Hid ((w.alloc (.cells #[.int .i64 N, .slice ao xs.length cap] 24)).alloc (.cells #[.int .i64 0, .slice none 0 0] 32) = W1) := hW1
  have n0 : W1.heap[z]? = some (.cells #[.int .i64 N, .slice ao xs.length cap] 24) := by rw [← hW1, ← hz]; exact (Below.heap_alloc _ _ _ (by simp)).trans (heap_newG _ _)
  have n1 : W1.heap[z2]? = some (.cells #[.int .i64 0, .slice none 0 0] 32) := by
    have g := heap_newG (w.alloc (.cells #[.int .i64 N, .slice ao xs.length cap] 24)) (.cells #[.int .i64 0, .slice none 0 0] 32)
    rw [World.size_alloc, hz, hz2, hW1] at g
    exact g
  have hb1 : Below w.heap.size w W1 := by rw [← hW1]; exact ((Below.refl _ _).alloc (Nat.le_refl _) _).alloc (by simp) _
  have HZ : Hid (Below w.heap.size w W1 ∧ w.heap.size ≤ z2 ∧ z2 < W1.heap.size ∧ W1.heap[z]? = some (.cells #[.int .i64 N, .slice ao xs.length cap] 24) ∧ W1.heap[z2]? = some (.cells #[.int .i64 0, .slice none 0 0] 32) ∧ TabW w ∧ HasArcs w (.slice ao xs.length cap) xs ∧ w.heap.size = z ∧ z < W1.heap.size) := ⟨hb1, by omega, (Array.getElem?_eq_some_iff.1 n1).1, n0, n1, hT, hl, hz, (Array.getElem?_eq_some_iff.1 n0).1⟩
  have HCK : Hid (Calls Tryd.prog 14 #[.agg #[.int .i64 N, .slice ao xs.length cap]] W1 fun e w' => ∃ lo lc, e = .returned (.agg #[.int .i64 (graphErr N xs).1, .slice lo (graphErr N xs).2.length lc]) ∧ HasPlaces w' (.slice lo (graphErr N xs).2.length lc) (graphErr N xs).2 ∧ Below W1.heap.size W1 w') := docCheck_calls N ao cap xs W1 (hl.keep hb1) hm
  have c0 : W1.cell? ⟨z, 0, none⟩ = some (.int .i64 N) := by simp [World.cell?, n0]
  have c1 : W1.cell? ⟨z, 1, none⟩ = some (.slice ao xs.length cap) := by simp [World.cell?, n0]
  clear hW1 n0 n1 hb1 hT hl
  go_enter Tryd.func11, Tryd.ntmps11
  go_upto_region 1 with fail
  rw [HW1.out]
  try rw [hz, hz2]
  go_wp2_with fail
  refine HCK.out.mono ?_
  rintro e y1 ⟨lo, lc, rfl, hp, hy1⟩
  obtain ⟨E, hE⟩ : ∃ E, graphErr N xs = E := ⟨_, rfl⟩
  have HE : Hid (graphErr N xs = E) := hE
  rw [hE] at hp ⊢
  obtain ⟨eb, heb⟩ : ∃ eb, y1.heap.size = eb := ⟨_, rfl⟩
  obtain ⟨W4, hW4⟩ : ∃ W4, y1.alloc (.cells #[.int .i64 E.1, .slice lo E.2.length lc] 32) = W4 := ⟨_, rfl⟩
  have HW4 : Hid (y1.alloc (.cells #[.int .i64 E.1, .slice lo E.2.length lc] 32) = W4) := hW4
  have m0 : W4.heap[eb]? = some (.cells #[.int .i64 E.1, .slice lo E.2.length lc] 32) := by rw [← hW4, ← heb]; exact heap_newG _ _
  have hb4 : Below y1.heap.size y1 W4 := by rw [← hW4]; exact (Below.refl _ _).alloc (Nat.le_refl _) _
  have HK : Hid (∀ wx, Below W4.heap.size W4 wx → wx.cell? ⟨z, 0, none⟩ = some (.int .i64 N) ∧ wx.cell? ⟨z, 1, none⟩ = some (.slice ao xs.length cap) ∧ TabW wx ∧ HasArcs wx (.slice ao xs.length cap) xs ∧ Below w.heap.size w wx ∧ wx.heap[eb]? = some (.cells #[.int .i64 E.1, .slice lo E.2.length lc] 32) ∧ wx.heap[z2]? = some (.cells #[.int .i64 0, .slice none 0 0] 32) ∧ HasPlaces wx (.slice lo E.2.length lc) E.2) := fun wx hx => by
    have h3 := HZ.out.1
    have h5 : Below w.heap.size w y1 := h3.trans (hy1.mono h3.size)
    have h6 : Below y1.heap.size y1 wx := hb4.trans (hx.mono hb4.size)
    have h7 : wx.heap[z]? = some (.cells #[.int .i64 N, .slice ao xs.length cap] 24) := (h6.block _ (Nat.lt_of_lt_of_le HZ.out.2.2.2.2.2.2.2.2 hy1.size)).trans ((hy1.block _ HZ.out.2.2.2.2.2.2.2.2).trans HZ.out.2.2.2.1)
    have h8 : Below w.heap.size w wx := h5.trans (h6.mono h5.size)
    exact ⟨by simp [World.cell?, h7], by simp [World.cell?, h7], HZ.out.2.2.2.2.2.1.keep h8 HZ.out.2.2.2.2.2.1.lt, HZ.out.2.2.2.2.2.2.1.keep h8, h8, (hx.block _ (Array.getElem?_eq_some_iff.1 m0).1).trans m0, (h6.block _ (Nat.lt_of_lt_of_le HZ.out.2.2.1 hy1.size)).trans ((hy1.block _ HZ.out.2.2.1).trans HZ.out.2.2.2.2.1), hp.keep h6⟩
  have HNE : Hid (z2 ≠ eb ∧ w.heap.size ≤ z2 ∧ 1 < W4.heap.size) := by
    have h1 := HZ.out.2.2.1
    have h2 := hy1.size
    have h3 := hb4.size
    have h4 := HZ.out.2.2.2.2.2.1.lt
    have h5 := HZ.out.2.1
    have h6 := HZ.out.1.size
    exact ⟨by omega, h5, by omega⟩
  have e0 : W4.cell? ⟨eb, 0, none⟩ = some (.int .i64 E.1) := by simp [World.cell?, m0]
  have e1 : W4.cell? ⟨eb, 1, none⟩ = some (.slice lo E.2.length lc) := by simp [World.cell?, m0]
  clear hW4 m0 hb4 hy1 hp c0 c1 HCK hE
  go_upto_region 2 with fail
  rw [HW4.out]
  try rw [heb]
  go_wp2_with fail
  refine (bad_calls E.1 lo E.2.length lc W4).mono ?_
  rintro e9 y3 ⟨rfl, hy3⟩
  have HY3 : Hid (Below W4.heap.size W4 y3) := hy3
  clear hy3 e0 e1
  by_cases hE0 : E = (0, [])
  · subst hE0
    obtain ⟨n, rfl, hg⟩ := graph_iff.1 HE.out
    have HG : Hid (GOk n xs ∧ graphErr (n : Int) xs = (0, [])) := ⟨hg, HE.out⟩
    have HML : Hid (xs.length ≤ 262144) := hg.2.1
    have hmm : xs.length ≤ 262144 := hg.2.1
    have HB : Hid (W4.heap.size ≤ y3.heap.size) := HY3.out.size
    obtain ⟨sN, hsN⟩ : ∃ s : ByteArray, (⟨(itoa (n : Int)).toArray⟩ : ByteArray) = s := ⟨_, rfl⟩
    obtain ⟨sM, hsM⟩ : ∃ s : ByteArray, (⟨(itoa (xs.length : Int)).toArray⟩ : ByteArray) = s := ⟨_, rfl⟩
    have HSN : Hid (bs sN = itoa (n : Int) ∧ bs sM = itoa (xs.length : Int)) := ⟨by rw [← hsN]; rfl, by rw [← hsM]; rfl⟩
    have HS : Hid (∀ wx, Below W4.heap.size W4 wx → (fun w' : World => w'.cell? ⟨z, 0, none⟩ = some (.int .i64 (n : Int)) ∧ w'.cell? ⟨z, 1, none⟩ = some (.slice ao xs.length cap) ∧ Hid (Below W4.heap.size W4 w' ∧ TabW w')) wx) := fun wx hx => by
      obtain ⟨a0, a1, a2, _⟩ := HK.out wx hx
      exact ⟨a0, a1, ⟨hx, a2⟩⟩
    have HIN : Hid (∀ wx, (fun w' : World => w'.cell? ⟨z, 0, none⟩ = some (.int .i64 (n : Int)) ∧ w'.cell? ⟨z, 1, none⟩ = some (.slice ao xs.length cap) ∧ Hid (Below W4.heap.size W4 w' ∧ TabW w')) wx → Calls Tryd.prog 24 #[.int .i64 (n : Int)] wx fun e w' => e = .returned (.string sN) ∧ Below wx.heap.size wx w' ∧ (fun w' : World => w'.cell? ⟨z, 0, none⟩ = some (.int .i64 (n : Int)) ∧ w'.cell? ⟨z, 1, none⟩ = some (.slice ao xs.length cap) ∧ Hid (Below W4.heap.size W4 w' ∧ TabW w')) w') := fun wx hSx => by
      refine (Tryd.strconv_Itoa (n : Int) (by omega) (by have := hg.1; omega) wx hSx.2.2.out.2).mono ?_
      rintro e w' ⟨rfl, kk, os, hw⟩
      have hb : Below wx.heap.size wx w' := by rw [hw]; exact below_grow _ _ (Nat.le_refl _) _ _
      exact ⟨by rw [hsN], hb, HS.out w' (hSx.2.2.out.1.trans (hb.mono hSx.2.2.out.1.size))⟩
    have HIM : Hid (∀ wx, (fun w' : World => w'.cell? ⟨z, 0, none⟩ = some (.int .i64 (n : Int)) ∧ w'.cell? ⟨z, 1, none⟩ = some (.slice ao xs.length cap) ∧ Hid (Below W4.heap.size W4 w' ∧ TabW w')) wx → Calls Tryd.prog 24 #[.int .i64 (xs.length : Int)] wx fun e w' => e = .returned (.string sM) ∧ Below wx.heap.size wx w' ∧ (fun w' : World => w'.cell? ⟨z, 0, none⟩ = some (.int .i64 (n : Int)) ∧ w'.cell? ⟨z, 1, none⟩ = some (.slice ao xs.length cap) ∧ Hid (Below W4.heap.size W4 w' ∧ TabW w')) w') := fun wx hSx => by
      refine (Tryd.strconv_Itoa (xs.length : Int) (by omega) (by have := hg.2.1; omega) wx hSx.2.2.out.2).mono ?_
      rintro e w' ⟨rfl, kk, os, hw⟩
      have hb : Below wx.heap.size wx w' := by rw [hw]; exact below_grow _ _ (Nat.le_refl _) _ _
      exact ⟨by rw [hsM], hb, HS.out w' (hSx.2.2.out.1.trans (hb.mono hSx.2.2.out.1.size))⟩
    obtain ⟨i0, hi9, hzz⟩ := Option.map_eq_some_iff.1 infoU8
    simp only [Prod.mk.injEq] at hzz
    have HI0 : Hid (Tryd.prog.info? 5 = some i0 ∧ i0.zero = some (.int .u8 0) ∧ i0.size = 1 ∧ i0.bytes = 1) := ⟨hi9, hzz⟩
    have HHT : Hid (bs ((((⟨#[103, 114, 97, 112, 104, 32]⟩ : ByteArray) ++ sN) ++ ⟨#[32]⟩) ++ sM ++ ⟨#[10]⟩) = pfx n xs 0) := head_txt _ _ HSN.out.1 HSN.out.2
    have zN : sN.size ≤ 21 := by rw [← bs_len, HSN.out.1]; exact itoa_length_le _ (by omega) (by have := hg.1; omega)
    have zM : sM.size ≤ 21 := by rw [← bs_len, HSN.out.2]; exact itoa_length_le _ (by omega) (by omega)
    clear hsN hsM hg hi9 hzz
    go_upto_region 5 with fail
    refine wp_region_M (S := (fun w' : World => w'.cell? ⟨z, 0, none⟩ = some (.int .i64 (n : Int)) ∧ w'.cell? ⟨z, 1, none⟩ = some (.slice ao xs.length cap) ∧ Hid (Below W4.heap.size W4 w' ∧ TabW w'))) (by kernel_rfl) (HS.out _ HY3.out.drew) ?_
    refine wpAnyM_take (i := 0) (oi := { dst := Option.some 13, op := Op.move (Operand.tmp 5), type := 56, pos := "ref.go:153", after := #[], guard := Option.none }) (v := ?va1z0) rfl (by kernel_rfl) (by kernel_rfl) (by kernel_rfl) (fun _ _ _ h => h) (YieldsM.of_if (Or.inl ⟨by rfl, ?ha1z0⟩)) ?ra1z0
    case ha1z0 => ((intro wz hSw; (try dsimp only at hSw); go_simp); try (with_reducible rfl))
    try simp only [Act.put, List.setIfInBounds_toArray, List.set_cons_zero, List.set_cons_succ]
    refine wpAnyM_take (i := 1) (oi := { dst := Option.some 14, op := Op.fieldAddr 24 (Operand.tmp 1) 0, type := 0, pos := "ref.go:153", after := #[], guard := Option.none }) (v := ?va2z1) rfl (by kernel_rfl) (by kernel_rfl) (by kernel_rfl) (fun _ _ _ h => h) (YieldsM.of_if (Or.inl ⟨by rfl, ?ha2z1⟩)) ?ra2z1
    case ha2z1 => ((intro wz hSw; (try dsimp only at hSw); go_simp); try (with_reducible rfl))
    try simp only [Act.put, List.setIfInBounds_toArray, List.set_cons_zero, List.set_cons_succ]
    refine wpAnyM_take (i := 2) (oi := { dst := Option.some 15, op := Op.load 3 (Operand.tmp 14), type := 3, pos := "ref.go:153", after := #[{ on := 1, ground := Ground.data }], guard := Option.none }) (v := ?va3z2) rfl (by kernel_rfl) (by kernel_rfl) (by kernel_rfl) (fun _ _ _ h => h) (YieldsM.of_if (Or.inl ⟨by rfl, ?ha3z2⟩)) ?ra3z2
    case ha3z2 => ((intro wz hSw; (try dsimp only at hSw); go_simp); try (with_reducible rfl))
    try simp only [Act.put, List.setIfInBounds_toArray, List.set_cons_zero, List.set_cons_succ]
    refine wpAnyM_take (i := 3) (oi := { dst := Option.some 16, op := Op.call { callee := Callee.value (Operand.func 24), args := #[Operand.tmp 15], argTypes := #[3] }, type := 9, pos := "ref.go:153", after := #[{ on := 2, ground := Ground.data }], guard := Option.none }) (v := (.string sN)) rfl (by kernel_rfl) (by kernel_rfl) (by kernel_rfl) (fun _ _ _ h => h) (YieldsM.of_call (f := 24) (by rfl) (fun _ _ => by kernel_rfl) (HIN.out)) ?_
    try simp only [Act.put, List.setIfInBounds_toArray, List.set_cons_zero, List.set_cons_succ]
    refine wpAnyM_take (i := 4) (oi := { dst := Option.some 17, op := Op.binOp BinOp.add 9 (Operand.const (Value.string { data := #[103, 114, 97, 112, 104, 32] })) (Operand.tmp 16) 9, type := 9, pos := "ref.go:153", after := #[{ on := 3, ground := Ground.data }], guard := Option.none }) (v := ?va4z4) rfl (by kernel_rfl) (by kernel_rfl) (by kernel_rfl) (fun _ _ _ h => h) (YieldsM.of_if (Or.inl ⟨by rfl, ?ha4z4⟩)) ?ra4z4
    case ha4z4 => ((intro wz hSw; (try dsimp only at hSw); go_simp); try (first | (with_reducible rfl) | (rw [if_neg (by (try simp only [ByteArray.size_append]); (try simp); omega)]; try (with_reducible rfl))))
    try simp only [Act.put, List.setIfInBounds_toArray, List.set_cons_zero, List.set_cons_succ]
    refine wpAnyM_take (i := 5) (oi := { dst := Option.some 18, op := Op.binOp BinOp.add 9 (Operand.tmp 17) (Operand.const (Value.string { data := #[32] })) 9, type := 9, pos := "ref.go:153", after := #[{ on := 4, ground := Ground.data }], guard := Option.none }) (v := ?va5z5) rfl (by kernel_rfl) (by kernel_rfl) (by kernel_rfl) (fun _ _ _ h => h) (YieldsM.of_if (Or.inl ⟨by rfl, ?ha5z5⟩)) ?ra5z5
    case ha5z5 => ((intro wz hSw; (try dsimp only at hSw); go_simp); try (first | (with_reducible rfl) | (rw [if_neg (by (try simp only [ByteArray.size_append]); (try simp); omega)]; try (with_reducible rfl))))
    try simp only [Act.put, List.setIfInBounds_toArray, List.set_cons_zero, List.set_cons_succ]
    refine wpAnyM_take (i := 6) (oi := { dst := Option.some 19, op := Op.fieldAddr 24 (Operand.tmp 1) 1, type := 0, pos := "ref.go:153", after := #[], guard := Option.none }) (v := ?va6z6) rfl (by kernel_rfl) (by kernel_rfl) (by kernel_rfl) (fun _ _ _ h => h) (YieldsM.of_if (Or.inl ⟨by rfl, ?ha6z6⟩)) ?ra6z6
    case ha6z6 => ((intro wz hSw; (try dsimp only at hSw); go_simp); try (with_reducible rfl))
    try simp only [Act.put, List.setIfInBounds_toArray, List.set_cons_zero, List.set_cons_succ]
    refine wpAnyM_take (i := 7) (oi := { dst := Option.some 20, op := Op.load 22 (Operand.tmp 19), type := 22, pos := "ref.go:153", after := #[{ on := 6, ground := Ground.data }], guard := Option.none }) (v := ?va7z7) rfl (by kernel_rfl) (by kernel_rfl) (by kernel_rfl) (fun _ _ _ h => h) (YieldsM.of_if (Or.inl ⟨by rfl, ?ha7z7⟩)) ?ra7z7
    case ha7z7 => ((intro wz hSw; (try dsimp only at hSw); go_simp); try (with_reducible rfl))
    try simp only [Act.put, List.setIfInBounds_toArray, List.set_cons_zero, List.set_cons_succ]
    refine wpAnyM_take (i := 8) (oi := { dst := Option.some 21, op := Op.call { callee := Callee.builtin Builtin.len, args := #[Operand.tmp 20], argTypes := #[22] }, type := 3, pos := "ref.go:153", after := #[{ on := 7, ground := Ground.data }], guard := Option.none }) (v := ?va8z8) rfl (by kernel_rfl) (by kernel_rfl) (by kernel_rfl) (fun _ _ _ h => h) (YieldsM.of_if (Or.inl ⟨by rfl, ?ha8z8⟩)) ?ra8z8
    case ha8z8 => ((intro wz hSw; (try dsimp only at hSw); go_simp); try (with_reducible rfl))
    try simp only [Act.put, List.setIfInBounds_toArray, List.set_cons_zero, List.set_cons_succ]
    refine wpAnyM_take (i := 9) (oi := { dst := Option.some 22, op := Op.call { callee := Callee.value (Operand.func 24), args := #[Operand.tmp 21], argTypes := #[3] }, type := 9, pos := "ref.go:153", after := #[{ on := 8, ground := Ground.data }, { on := 3, ground := Ground.chain }], guard := Option.none }) (v := (.string sM)) rfl (by kernel_rfl) (by kernel_rfl) (by kernel_rfl) (fun _ _ _ h => h) (YieldsM.of_call (f := 24) (by rfl) (fun _ _ => by kernel_rfl) (HIM.out)) ?_
    try simp only [Act.put, List.setIfInBounds_toArray, List.set_cons_zero, List.set_cons_succ]
    refine wpAnyM_take (i := 10) (oi := { dst := Option.some 23, op := Op.binOp BinOp.add 9 (Operand.tmp 18) (Operand.tmp 22) 9, type := 9, pos := "ref.go:153", after := #[{ on := 5, ground := Ground.data }, { on := 9, ground := Ground.data }], guard := Option.none }) (v := ?va9z10) rfl (by kernel_rfl) (by kernel_rfl) (by kernel_rfl) (fun _ _ _ h => h) (YieldsM.of_if (Or.inl ⟨by rfl, ?ha9z10⟩)) ?ra9z10
    case ha9z10 => ((intro wz hSw; (try dsimp only at hSw); go_simp); try (first | (with_reducible rfl) | (rw [if_neg (by (try simp only [ByteArray.size_append]); (try simp); omega)]; try (with_reducible rfl))))
    try simp only [Act.put, List.setIfInBounds_toArray, List.set_cons_zero, List.set_cons_succ]
    refine wpAnyM_take (i := 11) (oi := { dst := Option.some 24, op := Op.binOp BinOp.add 9 (Operand.tmp 23) (Operand.const (Value.string { data := #[10] })) 9, type := 9, pos := "ref.go:153", after := #[{ on := 10, ground := Ground.data }], guard := Option.none }) (v := ?va10z11) rfl (by kernel_rfl) (by kernel_rfl) (by kernel_rfl) (fun _ _ _ h => h) (YieldsM.of_if (Or.inl ⟨by rfl, ?ha10z11⟩)) ?ra10z11
    case ha10z11 => ((intro wz hSw; (try dsimp only at hSw); go_simp); try (first | (with_reducible rfl) | (rw [if_neg (by (try simp only [ByteArray.size_append]); (try simp); omega)]; try (with_reducible rfl))))
    try simp only [Act.put, List.setIfInBounds_toArray, List.set_cons_zero, List.set_cons_succ]
    refine readyM (i := 12) (o := { dst := Option.some 25, op := Op.call { callee := Callee.builtin Builtin.append, args := #[Operand.tmp 13, Operand.tmp 24], argTypes := #[56, 9] }, type := 56, pos := "ref.go:153", after := #[{ on := 0, ground := Ground.data }, { on := 11, ground := Ground.data }, { on := 9, ground := Ground.chain }], guard := Option.none }) rfl (by kernel_rfl) ?_
    intro u3 hg3 hS3 K hK
    rw [if_pos (by rfl)]
    have HP3 : Hid (Own8 W4.heap.size W4 u3 (.slice none 0 0) []) := ⟨hS3.2.2.out.1, World.ownsRow_nil _ _ _ _⟩
    have HB3 : Hid (W4.heap.size ≤ u3.heap.size) := hS3.2.2.out.1.size
    refine wp_append_str u3 _ _ 56 9 rfl W4.heap.size 5 i0 Tryd.underlying56 Tryd.underlying9 HI0.out.1 HI0.out.2.1 HI0.out.2.2.1 HI0.out.2.2.2 (.slice none 0 0) _ (byteCells []) rfl HP3.out.2 _ rfl (by have e := congrArg List.length HHT.out; rw [bs_len] at e; have := pfx_len HG.out.1 0 (Nat.zero_le _); rw [e]; unfold maxLen; show 0 + _ ≤ _; omega) (by have e := congrArg List.length HHT.out; rw [bs_len] at e; have := pfx_len HG.out.1 0 (Nat.zero_le _); rw [e]; show 0 + _ ≤ _; omega) HB3.out ?_
    intro v5 w5 hown5 hgr5
    have HP5 : Hid (Own8 W4.heap.size W4 w5 v5 (pfx n xs 0) ∧ W4.heap.size ≤ w5.heap.size) := ⟨by rw [← HHT.out]; exact HP3.out.add HB3.out hown5 hgr5, Nat.le_trans HB3.out hgr5.size⟩
    have HS5 : Hid ((fun w' : World => w'.cell? ⟨z, 0, none⟩ = some (.int .i64 (n : Int)) ∧ w'.cell? ⟨z, 1, none⟩ = some (.slice ao xs.length cap) ∧ Hid (Below W4.heap.size W4 w' ∧ TabW w')) w5) := HS.out w5 HP5.out.1.1
    clear hown5 hgr5 hg3 hS3 HP3 HB3
    refine hK.out _ _ HS5.out ?_
    clear hK K HS5
    try simp only [Act.put, List.setIfInBounds_toArray, List.set_cons_zero, List.set_cons_succ]
    refine wpAnyM_take (i := 13) (oi := { dst := Option.some 5, op := Op.assign (Operand.tmp 25), type := 56, pos := "ref.go:153", after := #[{ on := 12, ground := Ground.data }, { on := 12, ground := Ground.chain }, { on := 0, ground := Ground.phase }, { on := 1, ground := Ground.phase }, { on := 2, ground := Ground.phase }, { on := 3, ground := Ground.phase }, { on := 4, ground := Ground.phase }, { on := 5, ground := Ground.phase }, { on := 6, ground := Ground.phase }, { on := 7, ground := Ground.phase }, { on := 8, ground := Ground.phase }, { on := 9, ground := Ground.phase }, { on := 10, ground := Ground.phase }, { on := 11, ground := Ground.phase }, { on := 12, ground := Ground.phase }], guard := Option.none }) (v := ?vb11z13) rfl (by kernel_rfl) (by kernel_rfl) (by kernel_rfl) (fun _ _ _ h => h) (YieldsM.of_if (Or.inl ⟨by rfl, ?hb11z13⟩)) ?rb11z13
    case hb11z13 => ((intro wz hSw; (try dsimp only at hSw); go_simp); try (with_reducible rfl))
    try simp only [Act.put, List.setIfInBounds_toArray, List.set_cons_zero, List.set_cons_succ]
    refine wpAnyM_done (by kernel_rfl) ?_ _
    intro u9 hg9 hS9
    have HP9 : Hid (Own8 W4.heap.size W4 u9 v5 (pfx n xs 0)) := HP5.out.1.up HP5.out.2 hg9
    have HB9 : Hid (W4.heap.size ≤ u9.heap.size) := Nat.le_trans HP5.out.2 hg9.size
    obtain ⟨d0, d1, _⟩ := HK.out u9 HP9.out.1
    clear hS9 hg9 HP5 HIN HIM HHT HS
    go_wp2_with fail
    go_loopw [29, 5] (fun iv qv wr => ∃ (k : Nat) (pv : Value), k ≤ xs.length ∧ iv = .int .i64 k ∧ pv = qv ∧ Hid (Own8 W4.heap.size W4 wr pv (pfx n xs k)) ∧ Hid (W4.heap.size ≤ wr.heap.size)) (fun iv _ _ => xs.length - (intOf iv).toNat)
    case atStart => exact ⟨0, _, Nat.zero_le _, rfl, rfl, HP9, HB9⟩
    case round =>
      obtain ⟨k, pv, hk, rfl, rfl, HI, HBR⟩ := hrel
      rcases Nat.lt_or_eq_of_le hk with h1 | h1
      · obtain ⟨a, ha⟩ : ∃ a, xs[k]? = some a := ⟨_, List.getElem?_eq_getElem h1⟩
        obtain ⟨_, _, _, hA, _⟩ := HK.out wr HI.out.1
        obtain ⟨g, off, rfl, hgl, q0, q1, q2⟩ := hA.at ha
        have HX : Hid (xs[k]? = some a ∧ ArcOk n a) := ⟨ha, HG.out.1.2.2 a (List.mem_of_getElem? ha)⟩
        have i1 : decide ((k : Int) < (xs.length : Int)) = true := by simp; omega
        have i2 : (0 : Int) ≤ (k : Int) := by omega
        have i3 : (k : Int) < (xs.length : Int) := by omega
        obtain ⟨a0, a1, a2⟩ := a
        obtain ⟨ab, hab⟩ : ∃ ab, wr.heap.size = ab := ⟨_, rfl⟩
        obtain ⟨W5, hW5⟩ : ∃ W5, wr.alloc (.cells #[.int .i64 a0, .int .i64 a1, .int .i64 a2] 54) = W5 := ⟨_, rfl⟩
        have HW5 : Hid (wr.alloc (.cells #[.int .i64 a0, .int .i64 a1, .int .i64 a2] 54) = W5) := hW5
        have m5 : W5.heap[ab]? = some (.cells #[.int .i64 a0, .int .i64 a1, .int .i64 a2] 54) := by rw [← hW5, ← hab]; exact heap_newG _ _
        have HI5 : Hid (Own8 W4.heap.size W4 W5 pv (pfx n xs k) ∧ W4.heap.size ≤ W5.heap.size ∧ W5.heap[ab]? = some (.cells #[.int .i64 a0, .int .i64 a1, .int .i64 a2] 54)) := by
          refine ⟨?_, ?_, m5⟩
          · rw [← hW5]; exact HI.out.up HBR.out ((Below.refl _ _).alloc (Nat.le_refl _) _)
          · rw [← hW5]; have := HBR.out; simp; omega
        obtain ⟨s1, hs1⟩ : ∃ s : ByteArray, (⟨(itoa a0).toArray⟩ : ByteArray) = s := ⟨_, rfl⟩
        obtain ⟨s2, hs2⟩ : ∃ s : ByteArray, (⟨(itoa a1).toArray⟩ : ByteArray) = s := ⟨_, rfl⟩
        obtain ⟨s3, hs3⟩ : ∃ s : ByteArray, (⟨(itoa a2).toArray⟩ : ByteArray) = s := ⟨_, rfl⟩
        have HS9 : Hid (∀ wx, Below W4.heap.size W4 wx → wx.heap[ab]? = some (.cells #[.int .i64 a0, .int .i64 a1, .int .i64 a2] 54) → (fun w' : World => w'.cell? ⟨ab, 0, none⟩ = some (.int .i64 a0) ∧ w'.cell? ⟨ab, 1, none⟩ = some (.int .i64 a1) ∧ w'.cell? ⟨ab, 2, none⟩ = some (.int .i64 a2) ∧ Hid (Below W4.heap.size W4 w' ∧ TabW w' ∧ w'.heap[ab]? = some (.cells #[.int .i64 a0, .int .i64 a1, .int .i64 a2] 54))) wx) := fun wx hx hm => by
          obtain ⟨_, _, a2, _⟩ := HK.out wx hx
          exact ⟨by simp [World.cell?, hm], by simp [World.cell?, hm], by simp [World.cell?, hm], ⟨hx, a2, hm⟩⟩
        have HIA : Hid (∀ (m : Int) (s : ByteArray), (⟨(itoa m).toArray⟩ : ByteArray) = s → intOk m → ∀ wx, (fun w' : World => w'.cell? ⟨ab, 0, none⟩ = some (.int .i64 a0) ∧ w'.cell? ⟨ab, 1, none⟩ = some (.int .i64 a1) ∧ w'.cell? ⟨ab, 2, none⟩ = some (.int .i64 a2) ∧ Hid (Below W4.heap.size W4 w' ∧ TabW w' ∧ w'.heap[ab]? = some (.cells #[.int .i64 a0, .int .i64 a1, .int .i64 a2] 54))) wx → Calls Tryd.prog 24 #[.int .i64 m] wx fun e w' => e = .returned (.string s) ∧ Below wx.heap.size wx w' ∧ (fun w' : World => w'.cell? ⟨ab, 0, none⟩ = some (.int .i64 a0) ∧ w'.cell? ⟨ab, 1, none⟩ = some (.int .i64 a1) ∧ w'.cell? ⟨ab, 2, none⟩ = some (.int .i64 a2) ∧ Hid (Below W4.heap.size W4 w' ∧ TabW w' ∧ w'.heap[ab]? = some (.cells #[.int .i64 a0, .int .i64 a1, .int .i64 a2] 54))) w') := fun m s hms hmo wx hSx => by
          refine (Tryd.strconv_Itoa m hmo.1 hmo.2 wx hSx.2.2.2.out.2.1).mono ?_
          rintro e w' ⟨rfl, kk, os, hw⟩
          have hb : Below wx.heap.size wx w' := by rw [hw]; exact below_grow _ _ (Nat.le_refl _) _ _
          exact ⟨by rw [hms], hb, HS9.out w' (hSx.2.2.2.out.1.trans (hb.mono hSx.2.2.2.out.1.size)) ((hb.block _ (Array.getElem?_eq_some_iff.1 hSx.2.2.2.out.2.2).1).trans hSx.2.2.2.out.2.2)⟩
        have hin := arc_int HG.out.1.1 HX.out.2
        have HJ1 : Hid (∀ wx, (fun w' : World => w'.cell? ⟨ab, 0, none⟩ = some (.int .i64 a0) ∧ w'.cell? ⟨ab, 1, none⟩ = some (.int .i64 a1) ∧ w'.cell? ⟨ab, 2, none⟩ = some (.int .i64 a2) ∧ Hid (Below W4.heap.size W4 w' ∧ TabW w' ∧ w'.heap[ab]? = some (.cells #[.int .i64 a0, .int .i64 a1, .int .i64 a2] 54))) wx → Calls Tryd.prog 24 #[.int .i64 a0] wx fun e w' => e = .returned (.string s1) ∧ Below wx.heap.size wx w' ∧ (fun w' : World => w'.cell? ⟨ab, 0, none⟩ = some (.int .i64 a0) ∧ w'.cell? ⟨ab, 1, none⟩ = some (.int .i64 a1) ∧ w'.cell? ⟨ab, 2, none⟩ = some (.int .i64 a2) ∧ Hid (Below W4.heap.size W4 w' ∧ TabW w' ∧ w'.heap[ab]? = some (.cells #[.int .i64 a0, .int .i64 a1, .int .i64 a2] 54))) w') := HIA.out a0 s1 hs1 (hin a0 (by simp [arcNs]))
        have HJ2 : Hid (∀ wx, (fun w' : World => w'.cell? ⟨ab, 0, none⟩ = some (.int .i64 a0) ∧ w'.cell? ⟨ab, 1, none⟩ = some (.int .i64 a1) ∧ w'.cell? ⟨ab, 2, none⟩ = some (.int .i64 a2) ∧ Hid (Below W4.heap.size W4 w' ∧ TabW w' ∧ w'.heap[ab]? = some (.cells #[.int .i64 a0, .int .i64 a1, .int .i64 a2] 54))) wx → Calls Tryd.prog 24 #[.int .i64 a1] wx fun e w' => e = .returned (.string s2) ∧ Below wx.heap.size wx w' ∧ (fun w' : World => w'.cell? ⟨ab, 0, none⟩ = some (.int .i64 a0) ∧ w'.cell? ⟨ab, 1, none⟩ = some (.int .i64 a1) ∧ w'.cell? ⟨ab, 2, none⟩ = some (.int .i64 a2) ∧ Hid (Below W4.heap.size W4 w' ∧ TabW w' ∧ w'.heap[ab]? = some (.cells #[.int .i64 a0, .int .i64 a1, .int .i64 a2] 54))) w') := HIA.out a1 s2 hs2 (hin a1 (by simp [arcNs]))
        have HJ3 : Hid (∀ wx, (fun w' : World => w'.cell? ⟨ab, 0, none⟩ = some (.int .i64 a0) ∧ w'.cell? ⟨ab, 1, none⟩ = some (.int .i64 a1) ∧ w'.cell? ⟨ab, 2, none⟩ = some (.int .i64 a2) ∧ Hid (Below W4.heap.size W4 w' ∧ TabW w' ∧ w'.heap[ab]? = some (.cells #[.int .i64 a0, .int .i64 a1, .int .i64 a2] 54))) wx → Calls Tryd.prog 24 #[.int .i64 a2] wx fun e w' => e = .returned (.string s3) ∧ Below wx.heap.size wx w' ∧ (fun w' : World => w'.cell? ⟨ab, 0, none⟩ = some (.int .i64 a0) ∧ w'.cell? ⟨ab, 1, none⟩ = some (.int .i64 a1) ∧ w'.cell? ⟨ab, 2, none⟩ = some (.int .i64 a2) ∧ Hid (Below W4.heap.size W4 w' ∧ TabW w' ∧ w'.heap[ab]? = some (.cells #[.int .i64 a0, .int .i64 a1, .int .i64 a2] 54))) w') := HIA.out a2 s3 hs3 (hin a2 (by simp [arcNs]))
        have HAT : Hid (bs ((((((⟨#[97, 114, 99, 32]⟩ : ByteArray) ++ s1) ++ ⟨#[32]⟩) ++ s2) ++ ⟨#[32]⟩) ++ s3 ++ ⟨#[10]⟩) = rowL awd (arcNs (a0, a1, a2))) := arc_txt (a0, a1, a2) (by rw [← hs1]; rfl) (by rw [← hs2]; rfl) (by rw [← hs3]; rfl)
        have HRL : Hid ((rowL awd (arcNs (a0, a1, a2))).length ≤ 70) := row_len hin
        have HPL : Hid ((pfx n xs k).length ≤ 50 + 70 * k) := pfx_len HG.out.1 k hk
        have zS : s1.size ≤ 21 ∧ s2.size ≤ 21 ∧ s3.size ≤ 21 := by
          have g1 := hin a0 (by simp [arcNs])
          have g2 := hin a1 (by simp [arcNs])
          have g3 := hin a2 (by simp [arcNs])
          refine ⟨?_, ?_, ?_⟩
          · rw [← hs1]; exact itoa_length_le _ g1.1 g1.2
          · rw [← hs2]; exact itoa_length_le _ g2.1 g2.2
          · rw [← hs3]; exact itoa_length_le _ g3.1 g3.2
        obtain ⟨zS1, zS2, zS3⟩ := zS
        clear ha hA m5 hW5 hs1 hs2 hs3 hin HIA HI
        go_upto_region 9 with fail
        rw [HW5.out]
        try rw [hab]
        refine wp_region_M (S := (fun w' : World => w'.cell? ⟨ab, 0, none⟩ = some (.int .i64 a0) ∧ w'.cell? ⟨ab, 1, none⟩ = some (.int .i64 a1) ∧ w'.cell? ⟨ab, 2, none⟩ = some (.int .i64 a2) ∧ Hid (Below W4.heap.size W4 w' ∧ TabW w' ∧ w'.heap[ab]? = some (.cells #[.int .i64 a0, .int .i64 a1, .int .i64 a2] 54)))) (by kernel_rfl) (HS9.out _ HI5.out.1.1.drew HI5.out.2.2) ?_
        refine wpAnyM_take (i := 0) (oi := { dst := Option.some 33, op := Op.move (Operand.tmp 5), type := 56, pos := "ref.go:155", after := #[], guard := Option.none }) (v := ?vc12z0) rfl (by kernel_rfl) (by kernel_rfl) (by kernel_rfl) (fun _ _ _ h => h) (YieldsM.of_if (Or.inl ⟨by rfl, ?hc12z0⟩)) ?rc12z0
        case hc12z0 => ((intro wz hSw; (try dsimp only at hSw); go_simp); try (with_reducible rfl))
        try simp only [Act.put, List.setIfInBounds_toArray, List.set_cons_zero, List.set_cons_succ]
        refine wpAnyM_take (i := 1) (oi := { dst := Option.some 34, op := Op.fieldAddr 54 (Operand.tmp 7) 0, type := 0, pos := "ref.go:155", after := #[], guard := Option.none }) (v := ?vc13z1) rfl (by kernel_rfl) (by kernel_rfl) (by kernel_rfl) (fun _ _ _ h => h) (YieldsM.of_if (Or.inl ⟨by rfl, ?hc13z1⟩)) ?rc13z1
        case hc13z1 => ((intro wz hSw; (try dsimp only at hSw); go_simp); try (with_reducible rfl))
        try simp only [Act.put, List.setIfInBounds_toArray, List.set_cons_zero, List.set_cons_succ]
        refine wpAnyM_take (i := 2) (oi := { dst := Option.some 35, op := Op.load 3 (Operand.tmp 34), type := 3, pos := "ref.go:155", after := #[{ on := 1, ground := Ground.data }], guard := Option.none }) (v := ?vc14z2) rfl (by kernel_rfl) (by kernel_rfl) (by kernel_rfl) (fun _ _ _ h => h) (YieldsM.of_if (Or.inl ⟨by rfl, ?hc14z2⟩)) ?rc14z2
        case hc14z2 => ((intro wz hSw; (try dsimp only at hSw); go_simp); try (with_reducible rfl))
        try simp only [Act.put, List.setIfInBounds_toArray, List.set_cons_zero, List.set_cons_succ]
        refine wpAnyM_take (i := 3) (oi := { dst := Option.some 36, op := Op.call { callee := Callee.value (Operand.func 24), args := #[Operand.tmp 35], argTypes := #[3] }, type := 9, pos := "ref.go:155", after := #[{ on := 2, ground := Ground.data }], guard := Option.none }) (v := (.string s1)) rfl (by kernel_rfl) (by kernel_rfl) (by kernel_rfl) (fun _ _ _ h => h) (YieldsM.of_call (f := 24) (by rfl) (fun _ _ => by kernel_rfl) (HJ1.out)) ?_
        try simp only [Act.put, List.setIfInBounds_toArray, List.set_cons_zero, List.set_cons_succ]
        refine wpAnyM_take (i := 4) (oi := { dst := Option.some 37, op := Op.binOp BinOp.add 9 (Operand.const (Value.string { data := #[97, 114, 99, 32] })) (Operand.tmp 36) 9, type := 9, pos := "ref.go:155", after := #[{ on := 3, ground := Ground.data }], guard := Option.none }) (v := ?vc15z4) rfl (by kernel_rfl) (by kernel_rfl) (by kernel_rfl) (fun _ _ _ h => h) (YieldsM.of_if (Or.inl ⟨by rfl, ?hc15z4⟩)) ?rc15z4
        case hc15z4 => ((intro wz hSw; (try dsimp only at hSw); go_simp); try (first | (with_reducible rfl) | (rw [if_neg (by (try simp only [ByteArray.size_append]); (try simp); omega)]; try (with_reducible rfl))))
        try simp only [Act.put, List.setIfInBounds_toArray, List.set_cons_zero, List.set_cons_succ]
        refine wpAnyM_take (i := 5) (oi := { dst := Option.some 38, op := Op.binOp BinOp.add 9 (Operand.tmp 37) (Operand.const (Value.string { data := #[32] })) 9, type := 9, pos := "ref.go:155", after := #[{ on := 4, ground := Ground.data }], guard := Option.none }) (v := ?vc16z5) rfl (by kernel_rfl) (by kernel_rfl) (by kernel_rfl) (fun _ _ _ h => h) (YieldsM.of_if (Or.inl ⟨by rfl, ?hc16z5⟩)) ?rc16z5
        case hc16z5 => ((intro wz hSw; (try dsimp only at hSw); go_simp); try (first | (with_reducible rfl) | (rw [if_neg (by (try simp only [ByteArray.size_append]); (try simp); omega)]; try (with_reducible rfl))))
        try simp only [Act.put, List.setIfInBounds_toArray, List.set_cons_zero, List.set_cons_succ]
        refine wpAnyM_take (i := 6) (oi := { dst := Option.some 39, op := Op.fieldAddr 54 (Operand.tmp 7) 1, type := 0, pos := "ref.go:155", after := #[], guard := Option.none }) (v := ?vc17z6) rfl (by kernel_rfl) (by kernel_rfl) (by kernel_rfl) (fun _ _ _ h => h) (YieldsM.of_if (Or.inl ⟨by rfl, ?hc17z6⟩)) ?rc17z6
        case hc17z6 => ((intro wz hSw; (try dsimp only at hSw); go_simp); try (with_reducible rfl))
        try simp only [Act.put, List.setIfInBounds_toArray, List.set_cons_zero, List.set_cons_succ]
        refine wpAnyM_take (i := 7) (oi := { dst := Option.some 40, op := Op.load 3 (Operand.tmp 39), type := 3, pos := "ref.go:155", after := #[{ on := 6, ground := Ground.data }], guard := Option.none }) (v := ?vc18z7) rfl (by kernel_rfl) (by kernel_rfl) (by kernel_rfl) (fun _ _ _ h => h) (YieldsM.of_if (Or.inl ⟨by rfl, ?hc18z7⟩)) ?rc18z7
        case hc18z7 => ((intro wz hSw; (try dsimp only at hSw); go_simp); try (with_reducible rfl))
        try simp only [Act.put, List.setIfInBounds_toArray, List.set_cons_zero, List.set_cons_succ]
        refine wpAnyM_take (i := 8) (oi := { dst := Option.some 41, op := Op.call { callee := Callee.value (Operand.func 24), args := #[Operand.tmp 40], argTypes := #[3] }, type := 9, pos := "ref.go:155", after := #[{ on := 7, ground := Ground.data }, { on := 3, ground := Ground.chain }], guard := Option.none }) (v := (.string s2)) rfl (by kernel_rfl) (by kernel_rfl) (by kernel_rfl) (fun _ _ _ h => h) (YieldsM.of_call (f := 24) (by rfl) (fun _ _ => by kernel_rfl) (HJ2.out)) ?_
        try simp only [Act.put, List.setIfInBounds_toArray, List.set_cons_zero, List.set_cons_succ]
        refine wpAnyM_take (i := 9) (oi := { dst := Option.some 42, op := Op.binOp BinOp.add 9 (Operand.tmp 38) (Operand.tmp 41) 9, type := 9, pos := "ref.go:155", after := #[{ on := 5, ground := Ground.data }, { on := 8, ground := Ground.data }], guard := Option.none }) (v := ?vc19z9) rfl (by kernel_rfl) (by kernel_rfl) (by kernel_rfl) (fun _ _ _ h => h) (YieldsM.of_if (Or.inl ⟨by rfl, ?hc19z9⟩)) ?rc19z9
        case hc19z9 => ((intro wz hSw; (try dsimp only at hSw); go_simp); try (first | (with_reducible rfl) | (rw [if_neg (by (try simp only [ByteArray.size_append]); (try simp); omega)]; try (with_reducible rfl))))
        try simp only [Act.put, List.setIfInBounds_toArray, List.set_cons_zero, List.set_cons_succ]
        refine wpAnyM_take (i := 10) (oi := { dst := Option.some 43, op := Op.binOp BinOp.add 9 (Operand.tmp 42) (Operand.const (Value.string { data := #[32] })) 9, type := 9, pos := "ref.go:155", after := #[{ on := 9, ground := Ground.data }], guard := Option.none }) (v := ?vc20z10) rfl (by kernel_rfl) (by kernel_rfl) (by kernel_rfl) (fun _ _ _ h => h) (YieldsM.of_if (Or.inl ⟨by rfl, ?hc20z10⟩)) ?rc20z10
        case hc20z10 => ((intro wz hSw; (try dsimp only at hSw); go_simp); try (first | (with_reducible rfl) | (rw [if_neg (by (try simp only [ByteArray.size_append]); (try simp); omega)]; try (with_reducible rfl))))
        try simp only [Act.put, List.setIfInBounds_toArray, List.set_cons_zero, List.set_cons_succ]
        refine wpAnyM_take (i := 11) (oi := { dst := Option.some 44, op := Op.fieldAddr 54 (Operand.tmp 7) 2, type := 0, pos := "ref.go:155", after := #[], guard := Option.none }) (v := ?vc21z11) rfl (by kernel_rfl) (by kernel_rfl) (by kernel_rfl) (fun _ _ _ h => h) (YieldsM.of_if (Or.inl ⟨by rfl, ?hc21z11⟩)) ?rc21z11
        case hc21z11 => ((intro wz hSw; (try dsimp only at hSw); go_simp); try (with_reducible rfl))
        try simp only [Act.put, List.setIfInBounds_toArray, List.set_cons_zero, List.set_cons_succ]
        refine wpAnyM_take (i := 12) (oi := { dst := Option.some 45, op := Op.load 3 (Operand.tmp 44), type := 3, pos := "ref.go:155", after := #[{ on := 11, ground := Ground.data }], guard := Option.none }) (v := ?vc22z12) rfl (by kernel_rfl) (by kernel_rfl) (by kernel_rfl) (fun _ _ _ h => h) (YieldsM.of_if (Or.inl ⟨by rfl, ?hc22z12⟩)) ?rc22z12
        case hc22z12 => ((intro wz hSw; (try dsimp only at hSw); go_simp); try (with_reducible rfl))
        try simp only [Act.put, List.setIfInBounds_toArray, List.set_cons_zero, List.set_cons_succ]
        refine wpAnyM_take (i := 13) (oi := { dst := Option.some 46, op := Op.call { callee := Callee.value (Operand.func 24), args := #[Operand.tmp 45], argTypes := #[3] }, type := 9, pos := "ref.go:155", after := #[{ on := 12, ground := Ground.data }, { on := 8, ground := Ground.chain }], guard := Option.none }) (v := (.string s3)) rfl (by kernel_rfl) (by kernel_rfl) (by kernel_rfl) (fun _ _ _ h => h) (YieldsM.of_call (f := 24) (by rfl) (fun _ _ => by kernel_rfl) (HJ3.out)) ?_
        try simp only [Act.put, List.setIfInBounds_toArray, List.set_cons_zero, List.set_cons_succ]
        refine wpAnyM_take (i := 14) (oi := { dst := Option.some 47, op := Op.binOp BinOp.add 9 (Operand.tmp 43) (Operand.tmp 46) 9, type := 9, pos := "ref.go:155", after := #[{ on := 10, ground := Ground.data }, { on := 13, ground := Ground.data }], guard := Option.none }) (v := ?vc23z14) rfl (by kernel_rfl) (by kernel_rfl) (by kernel_rfl) (fun _ _ _ h => h) (YieldsM.of_if (Or.inl ⟨by rfl, ?hc23z14⟩)) ?rc23z14
        case hc23z14 => ((intro wz hSw; (try dsimp only at hSw); go_simp); try (first | (with_reducible rfl) | (rw [if_neg (by (try simp only [ByteArray.size_append]); (try simp); omega)]; try (with_reducible rfl))))
        try simp only [Act.put, List.setIfInBounds_toArray, List.set_cons_zero, List.set_cons_succ]
        refine wpAnyM_take (i := 15) (oi := { dst := Option.some 48, op := Op.binOp BinOp.add 9 (Operand.tmp 47) (Operand.const (Value.string { data := #[10] })) 9, type := 9, pos := "ref.go:155", after := #[{ on := 14, ground := Ground.data }], guard := Option.none }) (v := ?vc24z15) rfl (by kernel_rfl) (by kernel_rfl) (by kernel_rfl) (fun _ _ _ h => h) (YieldsM.of_if (Or.inl ⟨by rfl, ?hc24z15⟩)) ?rc24z15
        case hc24z15 => ((intro wz hSw; (try dsimp only at hSw); go_simp); try (first | (with_reducible rfl) | (rw [if_neg (by (try simp only [ByteArray.size_append]); (try simp); omega)]; try (with_reducible rfl))))
        try simp only [Act.put, List.setIfInBounds_toArray, List.set_cons_zero, List.set_cons_succ]
        refine readyM (i := 16) (o := { dst := Option.some 49, op := Op.call { callee := Callee.builtin Builtin.append, args := #[Operand.tmp 33, Operand.tmp 48], argTypes := #[56, 9] }, type := 56, pos := "ref.go:155", after := #[{ on := 0, ground := Ground.data }, { on := 15, ground := Ground.data }, { on := 13, ground := Ground.chain }], guard := Option.none }) rfl (by kernel_rfl) ?_
        intro u3 hg3 hS3 K hK
        rw [if_pos (by rfl)]
        have HP3 : Hid (Own8 W4.heap.size W4 u3 pv (pfx n xs k)) := HI5.out.1.up HI5.out.2.1 (Below.mono ((Below.refl _ W5).drew.trans hg3) (Nat.le_refl _))
        have HB3 : Hid (W4.heap.size ≤ u3.heap.size) := hS3.2.2.2.out.1.size
        refine wp_append_str u3 _ _ 56 9 rfl W4.heap.size 5 i0 Tryd.underlying56 Tryd.underlying9 HI0.out.1 HI0.out.2.1 HI0.out.2.2.1 HI0.out.2.2.2 pv _ (byteCells (pfx n xs k)) rfl HP3.out.2 _ rfl (by have e := congrArg List.length HAT.out; rw [bs_len] at e; have := HPL.out; have := HRL.out; have := HML.out; rw [e]; unfold maxLen; omega) (by have e := congrArg List.length HAT.out; rw [bs_len] at e; have := HPL.out; have := HRL.out; have := HML.out; rw [e]; omega) HB3.out ?_
        intro v5 w5 hown5 hgr5
        have HP5 : Hid (Own8 W4.heap.size W4 w5 v5 (pfx n xs (k + 1)) ∧ W4.heap.size ≤ w5.heap.size ∧ w5.heap[ab]? = some (.cells #[.int .i64 a0, .int .i64 a1, .int .i64 a2] 54)) := ⟨by rw [pfx_step HX.out.1, ← HAT.out]; exact HP3.out.add HB3.out hown5 hgr5, Nat.le_trans HB3.out hgr5.size, own8_kept HP3.out hgr5 hS3.2.2.2.out.2.2 (by decide)⟩
        have HS5 : Hid ((fun w' : World => w'.cell? ⟨ab, 0, none⟩ = some (.int .i64 a0) ∧ w'.cell? ⟨ab, 1, none⟩ = some (.int .i64 a1) ∧ w'.cell? ⟨ab, 2, none⟩ = some (.int .i64 a2) ∧ Hid (Below W4.heap.size W4 w' ∧ TabW w' ∧ w'.heap[ab]? = some (.cells #[.int .i64 a0, .int .i64 a1, .int .i64 a2] 54))) w5) := HS9.out w5 HP5.out.1.1 HP5.out.2.2
        clear hown5 hgr5 hg3 hS3 HP3 HB3
        refine hK.out _ _ HS5.out ?_
        clear hK K HS5
        try simp only [Act.put, List.setIfInBounds_toArray, List.set_cons_zero, List.set_cons_succ]
        refine wpAnyM_take (i := 17) (oi := { dst := Option.some 5, op := Op.assign (Operand.tmp 49), type := 56, pos := "ref.go:155", after := #[{ on := 16, ground := Ground.data }, { on := 16, ground := Ground.chain }, { on := 0, ground := Ground.phase }, { on := 1, ground := Ground.phase }, { on := 2, ground := Ground.phase }, { on := 3, ground := Ground.phase }, { on := 4, ground := Ground.phase }, { on := 5, ground := Ground.phase }, { on := 6, ground := Ground.phase }, { on := 7, ground := Ground.phase }, { on := 8, ground := Ground.phase }, { on := 9, ground := Ground.phase }, { on := 10, ground := Ground.phase }, { on := 11, ground := Ground.phase }, { on := 12, ground := Ground.phase }, { on := 13, ground := Ground.phase }, { on := 14, ground := Ground.phase }, { on := 15, ground := Ground.phase }, { on := 16, ground := Ground.phase }], guard := Option.none }) (v := ?vd25z17) rfl (by kernel_rfl) (by kernel_rfl) (by kernel_rfl) (fun _ _ _ h => h) (YieldsM.of_if (Or.inl ⟨by rfl, ?hd25z17⟩)) ?rd25z17
        case hd25z17 => ((intro wz hSw; (try dsimp only at hSw); go_simp); try (with_reducible rfl))
        try simp only [Act.put, List.setIfInBounds_toArray, List.set_cons_zero, List.set_cons_succ]
        refine wpAnyM_done (by kernel_rfl) ?_ _
        intro u9 hg9 hS9
        have HQ9 : Hid (Own8 W4.heap.size W4 u9 v5 (pfx n xs (k + 1)) ∧ W4.heap.size ≤ u9.heap.size) := ⟨HP5.out.1.up HP5.out.2.1 hg9, Nat.le_trans HP5.out.2.1 hg9.size⟩
        clear hS9 hg9 HP5 HJ1 HJ2 HJ3
        go_wp2_with fail
        go_roundw
        case rel => exact ⟨k + 1, _, by omega, by rw [show (k : Int) + 1 = ((k + 1 : Nat) : Int) by omega], rfl, HQ9.out.1, HQ9.out.2⟩
        case measure => simp only [intOf]; omega
      · have i1 : decide ((k : Int) < (xs.length : Int)) = false := by simp; omega
        subst h1
        have HPL : Hid ((pfx n xs xs.length).length ≤ 50 + 70 * xs.length) := pfx_len HG.out.1 xs.length (Nat.le_refl _)
        go_wp2_with (at_builtin; refine wpList_append_own_string _ rfl _ _ 56 9 rfl W4.heap.size 5 i0 Tryd.underlying56 Tryd.underlying9 HI0.out.1 HI0.out.2.1 HI0.out.2.2.1 HI0.out.2.2.2 pv _ (byteCells (pfx n xs xs.length)) rfl HI.out.2 ⟨#[101, 110, 100, 10]⟩ rfl (by have := HPL.out; have := HML.out; unfold maxLen; show _ + 4 ≤ _; omega) (by have := HPL.out; have := HML.out; show _ + 4 ≤ _; omega) HBR.out ?_; intro v5 w5 hown5 hgr5 _; have H5 : Hid (Own8 W4.heap.size W4 w5 v5 (prL n xs) ∧ W4.heap.size ≤ w5.heap.size) := ⟨by rw [← pfx_end]; exact HI.out.add HBR.out hown5 hgr5, Nat.le_trans HBR.out (hgr5.size)⟩; obtain ⟨g5, cap5, hv5, hcv5⟩ := bytes_back H5.out.1 (prL_ne n xs); have HCV : Hid ((convert 56 9 v5).run Tryd.prog w5 = .ok (.string ⟨(prL n xs).toArray⟩) w5) := hcv5; have hcv := HCV.out; clear hown5 hgr5 hcv5 hv5; obtain ⟨_, _, _, _, hb9, _, hz9, hp9⟩ := HK.out w5 H5.out.1.1; have f0 : w5.cell? ⟨z2, 0, none⟩ = some (.int .i64 0) := (by simp [World.cell?, hz9]); have f1 : w5.cell? ⟨z2, 1, none⟩ = some (.slice none 0 0) := (by simp [World.cell?, hz9]); have f2 : w5.frozen? ⟨z2, 0, none⟩ = false := (by simp [World.frozen?, hz9]); have f3 : w5.frozen? ⟨z2, 1, none⟩ = false := (by simp [World.frozen?, hz9]); have HZ9 : Hid (Below w.heap.size w w5 ∧ w5.heap[z2]? = some (.cells #[.int .i64 0, .slice none 0 0] 32)) := ⟨hb9, hz9⟩; clear hb9 hz9 hp9)
        refine bodyPost_ret (dpr_res (set_twoG HZ9.out.2 _ _) rfl rfl) rfl ?_
        refine ⟨_, none, 0, by rw [HG.out.2]; rfl, ?_, ?_, (set_far HZ9.out.1 HNE.out.2.1 _ _).1⟩
        · unfold prS
          rw [if_pos HG.out.2]
          rfl
        · rw [HG.out.2]
          exact ⟨none, 0, rfl, fun j p hj => by simp at hj⟩
  · have hb0 : (E.1 != 0 || decide (0 < E.2.length)) = true := by
      have := graphErr_bad (N := N) (xs := xs) (by rw [HE.out]; exact hE0)
      rw [HE.out] at this
      rw [bne_iff_ne.2 this]
      rfl
    rw [hb0]
    obtain ⟨_, _, _, _, hb9, he9, hz9, hp9⟩ := HK.out y3 HY3.out
    have e0 : y3.cell? ⟨eb, 0, none⟩ = some (.int .i64 E.1) := by simp [World.cell?, he9]
    have e1 : y3.cell? ⟨eb, 1, none⟩ = some (.slice lo E.2.length lc) := by simp [World.cell?, he9]
    have f0 : y3.cell? ⟨z2, 0, none⟩ = some (.int .i64 0) := by simp [World.cell?, hz9]
    have f1 : y3.cell? ⟨z2, 1, none⟩ = some (.slice none 0 0) := by simp [World.cell?, hz9]
    have f2 : y3.frozen? ⟨z2, 0, none⟩ = false := by simp [World.frozen?, hz9]
    have f3 : y3.frozen? ⟨z2, 1, none⟩ = false := by simp [World.frozen?, hz9]
    have HZ9 : Hid (Below w.heap.size w y3 ∧ y3.heap[z2]? = some (.cells #[.int .i64 0, .slice none 0 0] 32) ∧ HasPlaces y3 (.slice lo E.2.length lc) E.2) := ⟨hb9, hz9, hp9⟩
    have HE0 : Hid (E ≠ (0, [])) := hE0
    clear hb9 hz9 hp9 he9 hE0 hb0
    go_upto_region 3 with fail
    go_region
    go_wp2
    refine bodyPost_ret (dpr_res (set_twoG HZ9.out.2.1 _ _) rfl rfl) rfl ?_
    refine ⟨_, lo, lc, by rw [HE.out]; rfl, ?_, ?_, (set_far HZ9.out.1 HNE.out.2.1 _ _).1.drew⟩
    · unfold prS
      rw [if_neg ?_]
      · rfl
      · rw [HE.out]; exact HE0.out
    · rw [HE.out]
      exact pl_setsG HZ9.out.2.1 HZ9.out.2.2 _ _
end Go.Proofs.YtghbekpilhnkfaaDoor.Gt
