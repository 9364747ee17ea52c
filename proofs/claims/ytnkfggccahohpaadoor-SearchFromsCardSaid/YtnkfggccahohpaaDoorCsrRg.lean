/- viaductref05.Graph at right arrays: the list of arcs. -/
import Derived.Test.YtnkfggccahohpaaDoorCsrRr
namespace Go.Proofs.YtnkfggccahohpaaDoor
open Go.RowKit Go.Extern

attribute [local go_sem] Oper.semAt_some

theorem own_cap {w : World} {base n c : Nat} {o : Option Addr} {xs : List Value} (h : w.ownsRow base 95 3 (.slice o n c) n xs) : o = none → c = 0 := by
  rcases h.2 with ⟨h, _⟩ | ⟨g, cap, cur, h, _⟩
  · injection h with _ _ h
    exact fun _ => h
  · injection h with h
    intro e
    rw [e] at h
    cases h
/-- a list of arcs, nil or not, behind a row of one's own, as one step of a region that draws. -/
theorem step_append_any {w : World} {ops : Array Oper} {o : Oper} {a : Act} {K : Act → World → Prop} {Q : Exit → Act → World → Prop} {E : Prop} (hg : o.guard = none) (s x : Operand)
    (ho : o.op = .call { callee := .builtin .append, args := #[s, x], argTypes := #[92, 92] }) (base : Nat) (v : Value) (L : List (Int × Int × Int)) (hs : a.eval s = v) (hown : w.ownsRow base 95 3 v L.length (flatC L))
    (ao : Option Addr) (ac : Nat) (xs : List (Int × Int × Int)) (hx : a.eval x = .slice ao xs.length ac) (hl : HasArcs w (.slice ao xs.length ac) xs) (hno : ao = none → ac = 0) (hlen : L.length + xs.length ≤ 1048576) (hbase : base ≤ w.heap.size)
    (h : ∀ v' w', w'.ownsRow base 95 3 v' (L ++ xs).length (flatC (L ++ xs)) → w.grownBy w' v.ownBlock → K (a.put o.dst v') w') :
    if Region.wanted o (yielded ops a.tmps) = true then Oper.wp Tryd.prog o a w K Q else E := by
  cases ao with
  | some ad => exact step_append_arcs hg s x ho base v L hs hown ad ac xs hx hl hlen hbase h
  | none =>
    have hc := hno rfl
    subst hc
    have hx0 : xs = [] := by
      cases xs with
      | nil => rfl
      | cons q r => obtain ⟨b, off, e, _⟩ := hl.at (k := 0) (a := q) rfl; cases e
    subst hx0
    have hx' : a.eval x = .slice none 0 0 := hx
    have hw : Region.wanted o (yielded ops a.tmps) = true := by simp [Region.wanted, hg]
    rw [if_pos hw]
    obtain ⟨i0, hi, hz0, hz1, hz2⟩ : ∃ i, Tryd.prog.info? 95 = some i ∧ i.zero = some (.agg #[.int .i64 0, .int .i64 0, .int .i64 0]) ∧ i.size = 3 ∧ i.bytes = 24 := by
      have h := Tryd.infoC
      cases hi : Tryd.prog.info? 95 with
      | none => rw [hi] at h; cases h
      | some i => rw [hi] at h; simp at h; exact ⟨i, rfl, h.1, h.2.1, h.2.2⟩
    have hrun := run_append_owned_none (P := Tryd.prog) (w := w) base 92 o.type 95 i0 3 Tryd.underlying92 hi v L.length (flatC L) hown
    unfold Oper.wp
    simp [execOp, ho, resolve, invoke, builtin, hs, hx', hrun, Result.andThen]
    exact h v w (by simpa using hown) ⟨rfl, rfl, rfl, Nat.le_refl _, fun _ _ _ => rfl⟩
/-- the boxes and the row of a call of Graph. -/
structure RG (w : World) (c0 c1 c2 : Value) (n : Nat) (L : List (Int × Int × Int)) (so : Option Addr) (sc : Nat) (wr : World) : Prop where
  below : Below w.heap.size w wr
  box : wr.heap[w.heap.size]? = some (.cells #[c0, c1, c2] 24)
  res : wr.heap[w.heap.size + 1]? = some (.cells #[.int .i64 0, .slice none 0 0] 115)
  g : wr.heap[w.heap.size + 1 + 1]? = some (.cells #[.int .i64 n, .slice so L.length sc] 115)
  own : wr.ownsRow w.heap.size 95 3 (.slice so L.length sc) L.length (flatC L)
theorem RG.keep {w wr wx : World} {c0 c1 c2 : Value} {n : Nat} {L : List (Int × Int × Int)} {so : Option Addr} {sc : Nat} (h : RG w c0 c1 c2 n L so sc wr) (hb : Below wr.heap.size wr wx) : RG w c0 c1 c2 n L so sc wx :=
  ⟨btr h.below hb, (hb.block _ (lt_of_get h.box)).trans h.box, (hb.block _ (lt_of_get h.res)).trans h.res, (hb.block _ (lt_of_get h.g)).trans h.g, rowC_keep h.own hb⟩
theorem RG.put {w wr wx : World} {c0 c1 c2 : Value} {n : Nat} {L M : List (Int × Int × Int)} {so po : Option Addr} {sc pc : Nat} (h : RG w c0 c1 c2 n L so sc wr) (hown : wx.ownsRow w.heap.size 95 3 (.slice po M.length pc) M.length (flatC M)) (hgr : wr.grownBy wx (Value.slice so L.length sc).ownBlock) :
    (wx.heap[w.heap.size + 1 + 1]? = some (.cells #[.int .i64 n, .slice so L.length sc] 115) ∧ wx.heap[w.heap.size]? = some (.cells #[c0, c1, c2] 24)) ∧ RG w c0 c1 c2 n M po pc (wx.setCell ⟨w.heap.size + 1 + 1, 1, none⟩ (.slice po M.length pc)) := by
  have g1 := (hgr.block _ (lt_of_get h.box) (own_not_box h.own h.box (by decide))).trans h.box
  have g2 := (hgr.block _ (lt_of_get h.res) (own_not_box h.own h.res (by decide))).trans h.res
  have g3 := (hgr.block _ (lt_of_get h.g) (own_not_box h.own h.g (by decide))).trans h.g
  refine ⟨⟨g3, g1⟩, ?_, ?_, ?_, ?_, ?_⟩
  · exact (below_grown h.below h.own hgr h.below.size).setCell (p := ⟨w.heap.size + 1 + 1, 1, none⟩) (by show w.heap.size ≤ w.heap.size + 1 + 1; omega) _
  · exact (heap_setCell_other _ _ _ _ (by show w.heap.size ≠ w.heap.size + 1 + 1; omega)).trans g1
  · exact (heap_setCell_other _ _ _ _ (by show w.heap.size + 1 ≠ w.heap.size + 1 + 1; omega)).trans g2
  · exact (Go.heap_setCell_same _ _ 1 _ _ _ g3).trans rfl
  · exact own_far hown g3 (by decide) (fun g hg => heap_setCell_other _ _ _ _ hg) (Nat.le_refl _)

set_option maxRecDepth 100000 in
set_option maxHeartbeats 4000000 in
theorem rGraph_calls (n : Nat) (zs : List (Int × Int × Int)) (fo to wo : Option Addr) (fc tc wc : Nat) (w : World) (hz : Fine n zs) (h : CsrIn w n zs fo to wo fc tc wc) :
    Calls Tryd.prog 48 #[.agg #[.slice fo (n + 1) fc, .slice to zs.length tc, .slice wo zs.length wc]] w fun e w' => ∃ lo lc, e = .returned (.agg #[.int .i64 n, .slice lo zs.length lc]) ∧ w'.ownsRow w.heap.size 95 3 (.slice lo zs.length lc) zs.length (flatC zs) ∧ Below w.heap.size w w' := by
  have hN := hz.few
  have hM := hz.short
  have HRW : Hid (∀ wx, Below w.heap.size w wx → ∀ v : Nat, v < n → Calls Tryd.prog 35 #[.agg #[.slice fo (n + 1) fc, .slice to zs.length tc, .slice wo zs.length wc], .int .i64 v] wx fun e w' => ∃ lo lc, e = .returned (.slice lo (theRow zs v).length lc) ∧ w'.ownsRow wx.heap.size 95 3 (.slice lo (theRow zs v).length lc) (theRow zs v).length (flatC (theRow zs v)) ∧ Below wx.heap.size wx w') := fun wx hx v hv => rRow_calls n zs fo to wo fc tc wc wx hz (h.keep hx) v hv
  have HZE : Hid (zs.take (firstAt zs 0) = [] ∧ zs.take (firstAt zs n) = zs) := ⟨by rw [hz.zero]; rfl, by rw [hz.top, List.take_length]⟩
  have hw1 : IntKind.i64.wrap (((n + 1 : Nat) : Int) - 1) = (n : Int) := by rw [IntKind.wrap_i64] <;> omega
  have HS : Hid (RG w (.slice fo (n + 1) fc) (.slice to zs.length tc) (.slice wo zs.length wc) n [] none 0 (((w.alloc (.cells #[.slice fo (n + 1) fc, .slice to zs.length tc, .slice wo zs.length wc] 24)).alloc (.cells #[.int .i64 0, .slice none 0 0] 115)).alloc (.cells #[.int .i64 n, .slice none 0 0] 115))) := by
    have hh : ∀ k, (((w.alloc (.cells #[.slice fo (n + 1) fc, .slice to zs.length tc, .slice wo zs.length wc] 24)).alloc (.cells #[.int .i64 0, .slice none 0 0] 115)).alloc (.cells #[.int .i64 n, .slice none 0 0] 115)).heap[k]? = if k = w.heap.size + 1 + 1 then some (.cells #[.int .i64 n, .slice none 0 0] 115) else if k = w.heap.size + 1 then some (.cells #[.int .i64 0, .slice none 0 0] 115) else if k = w.heap.size then some (.cells #[.slice fo (n + 1) fc, .slice to zs.length tc, .slice wo zs.length wc] 24) else w.heap[k]? := fun k => by
      show (((w.heap.push _).push _).push _)[k]? = _
      rw [Array.getElem?_push, Array.getElem?_push, Array.getElem?_push]
      simp
    refine ⟨(((Below.refl _ w).alloc (Nat.le_refl _) _).alloc (by simp) _).alloc (by simp <;> omega) _, ?_, ?_, ?_, World.ownsRow_nil _ _ _ _⟩
    · rw [hh, if_neg (by omega), if_neg (by omega), if_pos rfl]
    · rw [hh, if_neg (by omega), if_pos rfl]
    · rw [hh, if_pos rfl]; rfl
  clear hz h
  go_enter Tryd.func48, Tryd.ntmps48
  go_wp2_with fail
  generalize (((w.alloc (.cells #[.slice fo (n + 1) fc, .slice to zs.length tc, .slice wo zs.length wc] 24)).alloc (.cells #[.int .i64 0, .slice none 0 0] 115)).alloc (.cells #[.int .i64 n, .slice none 0 0] 115)) = W0 at *
  go_loopw [4] (fun nv wr => ∃ k : Nat, k ≤ n ∧ nv = .int .i64 k ∧ ∃ so sc, RG w (.slice fo (n + 1) fc) (.slice to zs.length tc) (.slice wo zs.length wc) n (zs.take (firstAt zs k)) so sc wr) (fun nv _ => n - (intOf nv).toNat)
  case atStart => exact ⟨0, Nat.zero_le _, rfl, none, 0, by rw [HZE.out.1]; exact HS.out⟩
  case round =>
    obtain ⟨k, hk, rfl, so, sc, hR⟩ := hrel
    have HR : Hid (type_of% hR) := hR
    obtain ⟨c0, c1, c2⟩ := box3 hR.box
    have cs := lt_of_get hR.box
    obtain ⟨g0, g1, z0, z1⟩ := cell_two hR.g
    have gs := lt_of_get hR.g
    clear hR
    by_cases hlt : k < n
    · have HRR : Hid (zs.take (firstAt zs k) ++ theRow zs k = zs.take (firstAt zs (k + 1))) := rowOf_all zs k
      have HLL : Hid ((zs.take (firstAt zs k)).length + (theRow zs k).length ≤ 524288) := by
        show _ ≤ _
        have h1 := rowOf_len (zs := zs) k (firstAt zs (k + 1))
        have h2 : (zs.take (firstAt zs k)).length ≤ zs.length := by rw [List.length_take]; omega
        unfold theRow
        omega
      have HCL : Hid (∀ wx, Below wr.heap.size wr wx → Calls Tryd.prog 35 #[.agg #[.slice fo (n + 1) fc, .slice to zs.length tc, .slice wo zs.length wc], .int .i64 k] wx fun e w' => ∃ lo lc, e = .returned (.slice lo (theRow zs k).length lc) ∧ w'.ownsRow wx.heap.size 95 3 (.slice lo (theRow zs k).length lc) (theRow zs k).length (flatC (theRow zs k)) ∧ Below wx.heap.size wx w') := fun wx hx => HRW.out wx (btr HR.out.below hx) k hlt
      generalize hL : zs.take (firstAt zs k) = L at *
      generalize theRow zs k = M at *
      clear hL
      go_wp2_with fail
      go_region_law (first
        | (refine step_append_any rfl _ _ rfl w.heap.size (.slice so L.length sc) L rfl Y1.out.1.own lo lc M rfl (arcs_of_rowC Y1.out.2) (own_cap Y1.out.2) (by have := HLL.out; omega) Y1.out.1.below.size ?_; intro v3 w3 hown3 hgr3; obtain ⟨po, pc, hv3⟩ := rowC_slice hown3; subst hv3; have Y3 : Hid (type_of% (Y1.out.1.put hown3 hgr3)) := Y1.out.1.put hown3 hgr3; clear hown3 hgr3; obtain ⟨t0, t1, x0, x1⟩ := cell_two Y3.out.1.1; have ts := lt_of_get Y3.out.1.1; obtain ⟨u0, u1, u2⟩ := box3 Y3.out.1.2; have us := lt_of_get Y3.out.1.2)
        | (go_simp; go_at_call 35; refine (HCL.out _ (Below.refl _ wr).drew).mono ?_; rintro e y1 ⟨lo, lc, rfl, ho, hy⟩; have hyb := (Below.refl _ wr).drew.trans hy; have Y1 : Hid (RG w (.slice fo (n + 1) fc) (.slice to zs.length tc) (.slice wo zs.length wc) n L so sc y1 ∧ y1.ownsRow wr.heap.size 95 3 (.slice lo M.length lc) M.length (flatC M)) := ⟨HR.out.keep hyb, ho⟩; clear hy ho hyb; obtain ⟨p0, p1, p2⟩ := box3 Y1.out.1.box; have ps := lt_of_get Y1.out.1.box; obtain ⟨q0, q1, _, _⟩ := cell_two Y1.out.1.g; have qs := lt_of_get Y1.out.1.g))
      all_goals
        go_wp2
        go_roundw
        case rel => exact ⟨k + 1, by omega, by go_num, po, pc, by have h3 := Y3.out.2; rw [← HRR.out]; rw [List.length_append] at h3; exact h3⟩
        case measure => simp [intOf]; omega
    · obtain rfl : k = n := by omega
      obtain ⟨r0, r1, x0, x1⟩ := cell_two HR.out.res
      have rs := lt_of_get HR.out.res
      have HL : Hid (zs.take (firstAt zs k) = zs) := HZE.out.2
      rw [HL.out] at HR g1
      go_wp2
      refine bodyPost_ret (v := .agg #[.int .i64 k, .slice so zs.length sc]) (by simp [results, Tryd.results48, go_sem, r0, r1]) rfl ⟨so, sc, rfl, ?_, ?_⟩
      · exact own_far HR.out.own HR.out.res (by decide) (fun g hg => (heap_setCell_other _ _ _ _ hg).trans (heap_setCell_other _ _ _ _ hg)) (Nat.le_refl _)
      · exact Below.lay HR.out.below _ _
end Go.Proofs.YtnkfggccahohpaaDoor
