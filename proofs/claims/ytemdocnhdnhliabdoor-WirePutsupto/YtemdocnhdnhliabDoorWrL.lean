/- viaductref18.DocPut; the law WirePuts, walked, where both lists together are no longer than memory bears. -/
import Derived.Test.YtemdocnhdnhliabDoorWrJ
import Derived.Test.YtemdocnhdnhliabDoorSeen
namespace Go.Proofs.YtemdocnhdnhliabDoor
open Go.RowKit Go.Extern Cr

attribute [local go_sem] Oper.semAt_some

theorem E18_calls (n : Int) (w : World) : Calls Tryd.prog 25 #[.int .i64 n] w fun e w' => e = .returned (.agg #[.int .i64 n, .slice none 0 0]) ∧ Below w.heap.size w w' := by
  go_enter Tryd.func25, Tryd.ntmps25
  go_wp2
  refine bodyPost_ret (v := .agg #[.int .i64 n, .slice none 0 0]) (by simp [results, Tryd.results25, go_sem]) rfl ⟨rfl, (Below.refl _ _).alloc (Nat.le_refl _) _⟩
/-- the box of the answer's error. -/
def BoxE (w wx : World) : Prop := wx.heap[w.heap.size]? = some (.cells #[.int .i64 0, .slice none 0 0] 37) ∧ Below w.heap.size w wx
theorem boxE_made (w : World) : BoxE w (w.alloc (.cells #[.int .i64 0, .slice none 0 0] 37)) := ⟨heap_new _ _, (Below.refl _ w).alloc (Nat.le_refl _) _⟩
theorem BoxE.keep {w wx wy : World} (h : BoxE w wx) (hb : Below wx.heap.size wx wy) : BoxE w wy := ⟨(hb.block _ (b_lt_get h.1)).trans h.1, h.2.trans (hb.mono h.2.size)⟩
theorem BoxE.cells {w wx : World} (h : BoxE w wx) : wx.cell? ⟨w.heap.size, 0, none⟩ = some (.int .i64 0) ∧ wx.cell? ⟨w.heap.size, 1, none⟩ = some (.slice none 0 0) ∧ wx.frozen? ⟨w.heap.size, 0, none⟩ = false ∧ wx.frozen? ⟨w.heap.size, 1, none⟩ = false ∧ w.heap.size < wx.heap.size := by
  refine ⟨?_, ?_, ?_, ?_, b_lt_get h.1⟩
  all_goals simp [World.cell?, World.frozen?, h.1]
theorem boxE_set {w wx : World} (h : BoxE w wx) (a b : Value) : Below w.heap.size w ((wx.setCell ⟨w.heap.size, 0, none⟩ a).setCell ⟨w.heap.size, 1, none⟩ b) := below_set (below_set h.2 (Nat.le_refl _) _ _) (Nat.le_refl _) _ _
theorem boxE_has {w wx : World} {mo : Option Addr} {mc n : Nat} {L : List Nat} {a b : Value} (h : wx.ownsRow (w.heap.size + 1) 5 1 (.slice mo n mc) n (bv L)) : HasB ((wx.setCell ⟨w.heap.size, 0, none⟩ a).setCell ⟨w.heap.size, 1, none⟩ b) (.slice mo L.length mc) L := by
  have hl : L.length = n := by have := h.1; rw [bv_len, Nat.mul_one, Nat.mul_one] at this; exact this
  subst hl
  exact hasB_own (bown_keep h fun k hk => by
    have hk' := (h.lt k hk).1
    rw [Below.heap_setCell _ _ _ _ (by show k ≠ w.heap.size; omega), Below.heap_setCell _ _ _ _ (by show k ≠ w.heap.size; omega)])
/-- what DocPut answers. -/
def DocPutIs (w : World) (l : List Nat) (v : Nat) (n : Int) (e : Ending) (w' : World) : Prop := Below w.heap.size w w' ∧
  ((1 ≤ n ∧ n ≤ 8 ∧ v < 256 ^ n.toNat ∧ ∃ mo mc, e = .returned (.tuple #[.slice mo (l.length + n.toNat) mc, .agg #[.int .i64 0, .slice none 0 0]]) ∧ HasB w' (.slice mo (l ++ leN v n.toNat).length mc) (l ++ leN v n.toNat)) ∨
   ((n < 1 ∨ 8 < n) ∧ e = .returned (.tuple #[.slice none 0 0, .agg #[.int .i64 1, .slice none 0 0]])) ∨
   (1 ≤ n ∧ n ≤ 8 ∧ 256 ^ n.toNat ≤ v ∧ e = .returned (.tuple #[.slice none 0 0, .agg #[.int .i64 9, .slice none 0 0]])))
set_option maxRecDepth 100000 in
set_option maxHeartbeats 1000000 in
theorem docPut_bad (lo : Option Addr) (lc : Nat) (l : List Nat) (v : Nat) (n : Int) (h : n < 1 ∨ 8 < n) (w : World) :
    Calls Tryd.prog 14 #[.slice lo l.length lc, .int .u64 (v : Int), .int .i64 n] w fun e w' => DocPutIs w l v n e w' := by
  have HN : Hid (n < 1 ∨ 8 < n) := h
  have H0 : Hid (BoxE w (w.alloc (.cells #[.int .i64 0, .slice none 0 0] 37))) := boxE_made w
  rcases h with h | h
  all_goals go_enter Tryd.func14, Tryd.ntmps14
  all_goals go_wp2_with fail
  all_goals refine (E18_calls 1 _).mono ?_
  all_goals rintro e w1 ⟨rfl, hb1⟩
  all_goals have H1 : Hid (BoxE w w1) := H0.out.keep hb1
  all_goals obtain ⟨d0, d1, f0, f1, dl⟩ := H1.out.cells
  all_goals clear hb1
  all_goals go_wp2_with fail
  all_goals refine bodyPost_ret (v := .tuple #[.slice none 0 0, .agg #[.int .i64 1, .slice none 0 0]]) (by simp [results, Tryd.results14, go_sem, d0, d1]) rfl ?_
  all_goals exact ⟨boxE_set H1.out _ _, Or.inr (Or.inl ⟨HN.out, rfl⟩)⟩
set_option maxRecDepth 100000 in
set_option maxHeartbeats 1000000 in
theorem docPut_1 (lo : Option Addr) (lc : Nat) (l : List Nat) (v : Nat) (hv : v < 18446744073709551616) (w : World) (hl : HasB w (.slice lo l.length lc) l) (hm : l.length ≤ 1048576) (hc : lo = none → lc = 0) :
    Calls Tryd.prog 14 #[.slice lo l.length lc, .int .u64 (v : Int), .int .i64 1] w fun e w' => DocPutIs w l v 1 e w' := by
  have H0 : Hid (BoxE w (w.alloc (.cells #[.int .i64 0, .slice none 0 0] 37))) := boxE_made w
  have hP := vPut_calls lo lc l v 1 hv (w.alloc (.cells #[.int .i64 0, .slice none 0 0] 37)) (hl.keep H0.out.2) (by omega) hc (by omega)
  have HL : Hid ((l ++ leN v 1).length = l.length + 1) := (by rw [List.length_append, leN_len] : (l ++ leN v 1).length = l.length + 1)
  clear hl hc
  by_cases hq : v < 256
  · have i1 : (v : Int) / 256 = 0 := by omega
    have HQ : Hid (v < 256) := hq
    clear hq hv
    go_enter Tryd.func14, Tryd.ntmps14
    go_wp2_with (go_at_call 26; refine hP.mono ?_; rintro e w1 ⟨mo, mc, rfl, ho, hb1⟩; have H1 : Hid (BoxE w w1 ∧ HasB w1 (.slice mo (l ++ leN v 1).length mc) (l ++ leN v 1) ∧ w1.ownsRow (w.heap.size + 1) 5 1 (.slice mo (l.length + 1) mc) (l.length + 1) (bv (l ++ leN v 1))) := ⟨H0.out.keep hb1, by rw [← HL.out] at ho; exact hasB_own ho, by simpa using ho⟩; obtain ⟨d0, d1, f0, f1, dl⟩ := H1.out.1.cells; clear ho hb1)
    refine bodyPost_ret (v := .tuple #[.slice mo (l.length + 1) mc, .agg #[.int .i64 0, .slice none 0 0]]) (by simp [results, Tryd.results14, go_sem, d0, d1]) rfl ?_
    refine ⟨boxE_set H1.out.1 _ _, Or.inl ⟨by omega, by omega, by show v < 256 ^ 1; exact HQ.out, mo, mc, rfl, ?_⟩⟩
    show HasB _ (.slice mo (l ++ leN v 1).length mc) (l ++ leN v 1)
    exact boxE_has H1.out.2.2
  · have i1 : (v : Int) / 256 > 0 := by omega
    have HQ : Hid (256 ≤ v) := (by omega : 256 ≤ v)
    clear hP hq hv
    go_enter Tryd.func14, Tryd.ntmps14
    go_wp2_with fail
    refine (E18_calls 9 _).mono ?_
    rintro e w1 ⟨rfl, hb1⟩
    have H1 : Hid (BoxE w w1) := H0.out.keep hb1
    obtain ⟨d0, d1, f0, f1, dl⟩ := H1.out.cells
    clear hb1
    go_wp2_with fail
    refine bodyPost_ret (v := .tuple #[.slice none 0 0, .agg #[.int .i64 9, .slice none 0 0]]) (by simp [results, Tryd.results14, go_sem, d0, d1]) rfl ?_
    exact ⟨boxE_set H1.out _ _, Or.inr (Or.inr ⟨by omega, by omega, by show 256 ^ 1 ≤ v; exact HQ.out, rfl⟩)⟩
set_option maxRecDepth 100000 in
set_option maxHeartbeats 1000000 in
theorem docPut_2 (lo : Option Addr) (lc : Nat) (l : List Nat) (v : Nat) (hv : v < 18446744073709551616) (w : World) (hl : HasB w (.slice lo l.length lc) l) (hm : l.length ≤ 1048576) (hc : lo = none → lc = 0) :
    Calls Tryd.prog 14 #[.slice lo l.length lc, .int .u64 (v : Int), .int .i64 2] w fun e w' => DocPutIs w l v 2 e w' := by
  have H0 : Hid (BoxE w (w.alloc (.cells #[.int .i64 0, .slice none 0 0] 37))) := boxE_made w
  have hP := vPut_calls lo lc l v 2 hv (w.alloc (.cells #[.int .i64 0, .slice none 0 0] 37)) (hl.keep H0.out.2) (by omega) hc (by omega)
  have HL : Hid ((l ++ leN v 2).length = l.length + 2) := (by rw [List.length_append, leN_len] : (l ++ leN v 2).length = l.length + 2)
  clear hl hc
  by_cases hq : v < 65536
  · have i1 : (v : Int) / 65536 = 0 := by omega
    have HQ : Hid (v < 65536) := hq
    clear hq hv
    go_enter Tryd.func14, Tryd.ntmps14
    go_wp2_with (go_at_call 26; refine hP.mono ?_; rintro e w1 ⟨mo, mc, rfl, ho, hb1⟩; have H1 : Hid (BoxE w w1 ∧ HasB w1 (.slice mo (l ++ leN v 2).length mc) (l ++ leN v 2) ∧ w1.ownsRow (w.heap.size + 1) 5 1 (.slice mo (l.length + 2) mc) (l.length + 2) (bv (l ++ leN v 2))) := ⟨H0.out.keep hb1, by rw [← HL.out] at ho; exact hasB_own ho, by simpa using ho⟩; obtain ⟨d0, d1, f0, f1, dl⟩ := H1.out.1.cells; clear ho hb1)
    refine bodyPost_ret (v := .tuple #[.slice mo (l.length + 2) mc, .agg #[.int .i64 0, .slice none 0 0]]) (by simp [results, Tryd.results14, go_sem, d0, d1]) rfl ?_
    refine ⟨boxE_set H1.out.1 _ _, Or.inl ⟨by omega, by omega, by show v < 256 ^ 2; exact HQ.out, mo, mc, rfl, ?_⟩⟩
    show HasB _ (.slice mo (l ++ leN v 2).length mc) (l ++ leN v 2)
    exact boxE_has H1.out.2.2
  · have i1 : (v : Int) / 65536 > 0 := by omega
    have HQ : Hid (65536 ≤ v) := (by omega : 65536 ≤ v)
    clear hP hq hv
    go_enter Tryd.func14, Tryd.ntmps14
    go_wp2_with fail
    refine (E18_calls 9 _).mono ?_
    rintro e w1 ⟨rfl, hb1⟩
    have H1 : Hid (BoxE w w1) := H0.out.keep hb1
    obtain ⟨d0, d1, f0, f1, dl⟩ := H1.out.cells
    clear hb1
    go_wp2_with fail
    refine bodyPost_ret (v := .tuple #[.slice none 0 0, .agg #[.int .i64 9, .slice none 0 0]]) (by simp [results, Tryd.results14, go_sem, d0, d1]) rfl ?_
    exact ⟨boxE_set H1.out _ _, Or.inr (Or.inr ⟨by omega, by omega, by show 256 ^ 2 ≤ v; exact HQ.out, rfl⟩)⟩
set_option maxRecDepth 100000 in
set_option maxHeartbeats 1000000 in
theorem docPut_3 (lo : Option Addr) (lc : Nat) (l : List Nat) (v : Nat) (hv : v < 18446744073709551616) (w : World) (hl : HasB w (.slice lo l.length lc) l) (hm : l.length ≤ 1048576) (hc : lo = none → lc = 0) :
    Calls Tryd.prog 14 #[.slice lo l.length lc, .int .u64 (v : Int), .int .i64 3] w fun e w' => DocPutIs w l v 3 e w' := by
  have H0 : Hid (BoxE w (w.alloc (.cells #[.int .i64 0, .slice none 0 0] 37))) := boxE_made w
  have hP := vPut_calls lo lc l v 3 hv (w.alloc (.cells #[.int .i64 0, .slice none 0 0] 37)) (hl.keep H0.out.2) (by omega) hc (by omega)
  have HL : Hid ((l ++ leN v 3).length = l.length + 3) := (by rw [List.length_append, leN_len] : (l ++ leN v 3).length = l.length + 3)
  clear hl hc
  by_cases hq : v < 16777216
  · have i1 : (v : Int) / 16777216 = 0 := by omega
    have HQ : Hid (v < 16777216) := hq
    clear hq hv
    go_enter Tryd.func14, Tryd.ntmps14
    go_wp2_with (go_at_call 26; refine hP.mono ?_; rintro e w1 ⟨mo, mc, rfl, ho, hb1⟩; have H1 : Hid (BoxE w w1 ∧ HasB w1 (.slice mo (l ++ leN v 3).length mc) (l ++ leN v 3) ∧ w1.ownsRow (w.heap.size + 1) 5 1 (.slice mo (l.length + 3) mc) (l.length + 3) (bv (l ++ leN v 3))) := ⟨H0.out.keep hb1, by rw [← HL.out] at ho; exact hasB_own ho, by simpa using ho⟩; obtain ⟨d0, d1, f0, f1, dl⟩ := H1.out.1.cells; clear ho hb1)
    refine bodyPost_ret (v := .tuple #[.slice mo (l.length + 3) mc, .agg #[.int .i64 0, .slice none 0 0]]) (by simp [results, Tryd.results14, go_sem, d0, d1]) rfl ?_
    refine ⟨boxE_set H1.out.1 _ _, Or.inl ⟨by omega, by omega, by show v < 256 ^ 3; exact HQ.out, mo, mc, rfl, ?_⟩⟩
    show HasB _ (.slice mo (l ++ leN v 3).length mc) (l ++ leN v 3)
    exact boxE_has H1.out.2.2
  · have i1 : (v : Int) / 16777216 > 0 := by omega
    have HQ : Hid (16777216 ≤ v) := (by omega : 16777216 ≤ v)
    clear hP hq hv
    go_enter Tryd.func14, Tryd.ntmps14
    go_wp2_with fail
    refine (E18_calls 9 _).mono ?_
    rintro e w1 ⟨rfl, hb1⟩
    have H1 : Hid (BoxE w w1) := H0.out.keep hb1
    obtain ⟨d0, d1, f0, f1, dl⟩ := H1.out.cells
    clear hb1
    go_wp2_with fail
    refine bodyPost_ret (v := .tuple #[.slice none 0 0, .agg #[.int .i64 9, .slice none 0 0]]) (by simp [results, Tryd.results14, go_sem, d0, d1]) rfl ?_
    exact ⟨boxE_set H1.out _ _, Or.inr (Or.inr ⟨by omega, by omega, by show 256 ^ 3 ≤ v; exact HQ.out, rfl⟩)⟩
set_option maxRecDepth 100000 in
set_option maxHeartbeats 1000000 in
theorem docPut_4 (lo : Option Addr) (lc : Nat) (l : List Nat) (v : Nat) (hv : v < 18446744073709551616) (w : World) (hl : HasB w (.slice lo l.length lc) l) (hm : l.length ≤ 1048576) (hc : lo = none → lc = 0) :
    Calls Tryd.prog 14 #[.slice lo l.length lc, .int .u64 (v : Int), .int .i64 4] w fun e w' => DocPutIs w l v 4 e w' := by
  have H0 : Hid (BoxE w (w.alloc (.cells #[.int .i64 0, .slice none 0 0] 37))) := boxE_made w
  have hP := vPut_calls lo lc l v 4 hv (w.alloc (.cells #[.int .i64 0, .slice none 0 0] 37)) (hl.keep H0.out.2) (by omega) hc (by omega)
  have HL : Hid ((l ++ leN v 4).length = l.length + 4) := (by rw [List.length_append, leN_len] : (l ++ leN v 4).length = l.length + 4)
  clear hl hc
  by_cases hq : v < 4294967296
  · have i1 : (v : Int) / 4294967296 = 0 := by omega
    have HQ : Hid (v < 4294967296) := hq
    clear hq hv
    go_enter Tryd.func14, Tryd.ntmps14
    go_wp2_with (go_at_call 26; refine hP.mono ?_; rintro e w1 ⟨mo, mc, rfl, ho, hb1⟩; have H1 : Hid (BoxE w w1 ∧ HasB w1 (.slice mo (l ++ leN v 4).length mc) (l ++ leN v 4) ∧ w1.ownsRow (w.heap.size + 1) 5 1 (.slice mo (l.length + 4) mc) (l.length + 4) (bv (l ++ leN v 4))) := ⟨H0.out.keep hb1, by rw [← HL.out] at ho; exact hasB_own ho, by simpa using ho⟩; obtain ⟨d0, d1, f0, f1, dl⟩ := H1.out.1.cells; clear ho hb1)
    refine bodyPost_ret (v := .tuple #[.slice mo (l.length + 4) mc, .agg #[.int .i64 0, .slice none 0 0]]) (by simp [results, Tryd.results14, go_sem, d0, d1]) rfl ?_
    refine ⟨boxE_set H1.out.1 _ _, Or.inl ⟨by omega, by omega, by show v < 256 ^ 4; exact HQ.out, mo, mc, rfl, ?_⟩⟩
    show HasB _ (.slice mo (l ++ leN v 4).length mc) (l ++ leN v 4)
    exact boxE_has H1.out.2.2
  · have i1 : (v : Int) / 4294967296 > 0 := by omega
    have HQ : Hid (4294967296 ≤ v) := (by omega : 4294967296 ≤ v)
    clear hP hq hv
    go_enter Tryd.func14, Tryd.ntmps14
    go_wp2_with fail
    refine (E18_calls 9 _).mono ?_
    rintro e w1 ⟨rfl, hb1⟩
    have H1 : Hid (BoxE w w1) := H0.out.keep hb1
    obtain ⟨d0, d1, f0, f1, dl⟩ := H1.out.cells
    clear hb1
    go_wp2_with fail
    refine bodyPost_ret (v := .tuple #[.slice none 0 0, .agg #[.int .i64 9, .slice none 0 0]]) (by simp [results, Tryd.results14, go_sem, d0, d1]) rfl ?_
    exact ⟨boxE_set H1.out _ _, Or.inr (Or.inr ⟨by omega, by omega, by show 256 ^ 4 ≤ v; exact HQ.out, rfl⟩)⟩
set_option maxRecDepth 100000 in
set_option maxHeartbeats 1000000 in
theorem docPut_5 (lo : Option Addr) (lc : Nat) (l : List Nat) (v : Nat) (hv : v < 18446744073709551616) (w : World) (hl : HasB w (.slice lo l.length lc) l) (hm : l.length ≤ 1048576) (hc : lo = none → lc = 0) :
    Calls Tryd.prog 14 #[.slice lo l.length lc, .int .u64 (v : Int), .int .i64 5] w fun e w' => DocPutIs w l v 5 e w' := by
  have H0 : Hid (BoxE w (w.alloc (.cells #[.int .i64 0, .slice none 0 0] 37))) := boxE_made w
  have hP := vPut_calls lo lc l v 5 hv (w.alloc (.cells #[.int .i64 0, .slice none 0 0] 37)) (hl.keep H0.out.2) (by omega) hc (by omega)
  have HL : Hid ((l ++ leN v 5).length = l.length + 5) := (by rw [List.length_append, leN_len] : (l ++ leN v 5).length = l.length + 5)
  clear hl hc
  by_cases hq : v < 1099511627776
  · have i1 : (v : Int) / 1099511627776 = 0 := by omega
    have HQ : Hid (v < 1099511627776) := hq
    clear hq hv
    go_enter Tryd.func14, Tryd.ntmps14
    go_wp2_with (go_at_call 26; refine hP.mono ?_; rintro e w1 ⟨mo, mc, rfl, ho, hb1⟩; have H1 : Hid (BoxE w w1 ∧ HasB w1 (.slice mo (l ++ leN v 5).length mc) (l ++ leN v 5) ∧ w1.ownsRow (w.heap.size + 1) 5 1 (.slice mo (l.length + 5) mc) (l.length + 5) (bv (l ++ leN v 5))) := ⟨H0.out.keep hb1, by rw [← HL.out] at ho; exact hasB_own ho, by simpa using ho⟩; obtain ⟨d0, d1, f0, f1, dl⟩ := H1.out.1.cells; clear ho hb1)
    refine bodyPost_ret (v := .tuple #[.slice mo (l.length + 5) mc, .agg #[.int .i64 0, .slice none 0 0]]) (by simp [results, Tryd.results14, go_sem, d0, d1]) rfl ?_
    refine ⟨boxE_set H1.out.1 _ _, Or.inl ⟨by omega, by omega, by show v < 256 ^ 5; exact HQ.out, mo, mc, rfl, ?_⟩⟩
    show HasB _ (.slice mo (l ++ leN v 5).length mc) (l ++ leN v 5)
    exact boxE_has H1.out.2.2
  · have i1 : (v : Int) / 1099511627776 > 0 := by omega
    have HQ : Hid (1099511627776 ≤ v) := (by omega : 1099511627776 ≤ v)
    clear hP hq hv
    go_enter Tryd.func14, Tryd.ntmps14
    go_wp2_with fail
    refine (E18_calls 9 _).mono ?_
    rintro e w1 ⟨rfl, hb1⟩
    have H1 : Hid (BoxE w w1) := H0.out.keep hb1
    obtain ⟨d0, d1, f0, f1, dl⟩ := H1.out.cells
    clear hb1
    go_wp2_with fail
    refine bodyPost_ret (v := .tuple #[.slice none 0 0, .agg #[.int .i64 9, .slice none 0 0]]) (by simp [results, Tryd.results14, go_sem, d0, d1]) rfl ?_
    exact ⟨boxE_set H1.out _ _, Or.inr (Or.inr ⟨by omega, by omega, by show 256 ^ 5 ≤ v; exact HQ.out, rfl⟩)⟩
set_option maxRecDepth 100000 in
set_option maxHeartbeats 1000000 in
theorem docPut_6 (lo : Option Addr) (lc : Nat) (l : List Nat) (v : Nat) (hv : v < 18446744073709551616) (w : World) (hl : HasB w (.slice lo l.length lc) l) (hm : l.length ≤ 1048576) (hc : lo = none → lc = 0) :
    Calls Tryd.prog 14 #[.slice lo l.length lc, .int .u64 (v : Int), .int .i64 6] w fun e w' => DocPutIs w l v 6 e w' := by
  have H0 : Hid (BoxE w (w.alloc (.cells #[.int .i64 0, .slice none 0 0] 37))) := boxE_made w
  have hP := vPut_calls lo lc l v 6 hv (w.alloc (.cells #[.int .i64 0, .slice none 0 0] 37)) (hl.keep H0.out.2) (by omega) hc (by omega)
  have HL : Hid ((l ++ leN v 6).length = l.length + 6) := (by rw [List.length_append, leN_len] : (l ++ leN v 6).length = l.length + 6)
  clear hl hc
  by_cases hq : v < 281474976710656
  · have i1 : (v : Int) / 281474976710656 = 0 := by omega
    have HQ : Hid (v < 281474976710656) := hq
    clear hq hv
    go_enter Tryd.func14, Tryd.ntmps14
    go_wp2_with (go_at_call 26; refine hP.mono ?_; rintro e w1 ⟨mo, mc, rfl, ho, hb1⟩; have H1 : Hid (BoxE w w1 ∧ HasB w1 (.slice mo (l ++ leN v 6).length mc) (l ++ leN v 6) ∧ w1.ownsRow (w.heap.size + 1) 5 1 (.slice mo (l.length + 6) mc) (l.length + 6) (bv (l ++ leN v 6))) := ⟨H0.out.keep hb1, by rw [← HL.out] at ho; exact hasB_own ho, by simpa using ho⟩; obtain ⟨d0, d1, f0, f1, dl⟩ := H1.out.1.cells; clear ho hb1)
    refine bodyPost_ret (v := .tuple #[.slice mo (l.length + 6) mc, .agg #[.int .i64 0, .slice none 0 0]]) (by simp [results, Tryd.results14, go_sem, d0, d1]) rfl ?_
    refine ⟨boxE_set H1.out.1 _ _, Or.inl ⟨by omega, by omega, by show v < 256 ^ 6; exact HQ.out, mo, mc, rfl, ?_⟩⟩
    show HasB _ (.slice mo (l ++ leN v 6).length mc) (l ++ leN v 6)
    exact boxE_has H1.out.2.2
  · have i1 : (v : Int) / 281474976710656 > 0 := by omega
    have HQ : Hid (281474976710656 ≤ v) := (by omega : 281474976710656 ≤ v)
    clear hP hq hv
    go_enter Tryd.func14, Tryd.ntmps14
    go_wp2_with fail
    refine (E18_calls 9 _).mono ?_
    rintro e w1 ⟨rfl, hb1⟩
    have H1 : Hid (BoxE w w1) := H0.out.keep hb1
    obtain ⟨d0, d1, f0, f1, dl⟩ := H1.out.cells
    clear hb1
    go_wp2_with fail
    refine bodyPost_ret (v := .tuple #[.slice none 0 0, .agg #[.int .i64 9, .slice none 0 0]]) (by simp [results, Tryd.results14, go_sem, d0, d1]) rfl ?_
    exact ⟨boxE_set H1.out _ _, Or.inr (Or.inr ⟨by omega, by omega, by show 256 ^ 6 ≤ v; exact HQ.out, rfl⟩)⟩
set_option maxRecDepth 100000 in
set_option maxHeartbeats 1000000 in
theorem docPut_7 (lo : Option Addr) (lc : Nat) (l : List Nat) (v : Nat) (hv : v < 18446744073709551616) (w : World) (hl : HasB w (.slice lo l.length lc) l) (hm : l.length ≤ 1048576) (hc : lo = none → lc = 0) :
    Calls Tryd.prog 14 #[.slice lo l.length lc, .int .u64 (v : Int), .int .i64 7] w fun e w' => DocPutIs w l v 7 e w' := by
  have H0 : Hid (BoxE w (w.alloc (.cells #[.int .i64 0, .slice none 0 0] 37))) := boxE_made w
  have hP := vPut_calls lo lc l v 7 hv (w.alloc (.cells #[.int .i64 0, .slice none 0 0] 37)) (hl.keep H0.out.2) (by omega) hc (by omega)
  have HL : Hid ((l ++ leN v 7).length = l.length + 7) := (by rw [List.length_append, leN_len] : (l ++ leN v 7).length = l.length + 7)
  clear hl hc
  by_cases hq : v < 72057594037927936
  · have i1 : (v : Int) / 72057594037927936 = 0 := by omega
    have HQ : Hid (v < 72057594037927936) := hq
    clear hq hv
    go_enter Tryd.func14, Tryd.ntmps14
    go_wp2_with (go_at_call 26; refine hP.mono ?_; rintro e w1 ⟨mo, mc, rfl, ho, hb1⟩; have H1 : Hid (BoxE w w1 ∧ HasB w1 (.slice mo (l ++ leN v 7).length mc) (l ++ leN v 7) ∧ w1.ownsRow (w.heap.size + 1) 5 1 (.slice mo (l.length + 7) mc) (l.length + 7) (bv (l ++ leN v 7))) := ⟨H0.out.keep hb1, by rw [← HL.out] at ho; exact hasB_own ho, by simpa using ho⟩; obtain ⟨d0, d1, f0, f1, dl⟩ := H1.out.1.cells; clear ho hb1)
    refine bodyPost_ret (v := .tuple #[.slice mo (l.length + 7) mc, .agg #[.int .i64 0, .slice none 0 0]]) (by simp [results, Tryd.results14, go_sem, d0, d1]) rfl ?_
    refine ⟨boxE_set H1.out.1 _ _, Or.inl ⟨by omega, by omega, by show v < 256 ^ 7; exact HQ.out, mo, mc, rfl, ?_⟩⟩
    show HasB _ (.slice mo (l ++ leN v 7).length mc) (l ++ leN v 7)
    exact boxE_has H1.out.2.2
  · have i1 : (v : Int) / 72057594037927936 > 0 := by omega
    have HQ : Hid (72057594037927936 ≤ v) := (by omega : 72057594037927936 ≤ v)
    clear hP hq hv
    go_enter Tryd.func14, Tryd.ntmps14
    go_wp2_with fail
    refine (E18_calls 9 _).mono ?_
    rintro e w1 ⟨rfl, hb1⟩
    have H1 : Hid (BoxE w w1) := H0.out.keep hb1
    obtain ⟨d0, d1, f0, f1, dl⟩ := H1.out.cells
    clear hb1
    go_wp2_with fail
    refine bodyPost_ret (v := .tuple #[.slice none 0 0, .agg #[.int .i64 9, .slice none 0 0]]) (by simp [results, Tryd.results14, go_sem, d0, d1]) rfl ?_
    exact ⟨boxE_set H1.out _ _, Or.inr (Or.inr ⟨by omega, by omega, by show 256 ^ 7 ≤ v; exact HQ.out, rfl⟩)⟩
set_option maxRecDepth 100000 in
set_option maxHeartbeats 1000000 in
theorem docPut_8 (lo : Option Addr) (lc : Nat) (l : List Nat) (v : Nat) (hv : v < 18446744073709551616) (w : World) (hl : HasB w (.slice lo l.length lc) l) (hm : l.length ≤ 1048576) (hc : lo = none → lc = 0) :
    Calls Tryd.prog 14 #[.slice lo l.length lc, .int .u64 (v : Int), .int .i64 8] w fun e w' => DocPutIs w l v 8 e w' := by
  have H0 : Hid (BoxE w (w.alloc (.cells #[.int .i64 0, .slice none 0 0] 37))) := boxE_made w
  have hP := vPut_calls lo lc l v 8 hv (w.alloc (.cells #[.int .i64 0, .slice none 0 0] 37)) (hl.keep H0.out.2) (by omega) hc (by omega)
  have HL : Hid ((l ++ leN v 8).length = l.length + 8) := (by rw [List.length_append, leN_len] : (l ++ leN v 8).length = l.length + 8)
  clear hl hc
  · have HQ : Hid (v < 18446744073709551616) := hv
    clear hv
    go_enter Tryd.func14, Tryd.ntmps14
    go_wp2_with (go_at_call 26; refine hP.mono ?_; rintro e w1 ⟨mo, mc, rfl, ho, hb1⟩; have H1 : Hid (BoxE w w1 ∧ HasB w1 (.slice mo (l ++ leN v 8).length mc) (l ++ leN v 8) ∧ w1.ownsRow (w.heap.size + 1) 5 1 (.slice mo (l.length + 8) mc) (l.length + 8) (bv (l ++ leN v 8))) := ⟨H0.out.keep hb1, by rw [← HL.out] at ho; exact hasB_own ho, by simpa using ho⟩; obtain ⟨d0, d1, f0, f1, dl⟩ := H1.out.1.cells; clear ho hb1)
    refine bodyPost_ret (v := .tuple #[.slice mo (l.length + 8) mc, .agg #[.int .i64 0, .slice none 0 0]]) (by simp [results, Tryd.results14, go_sem, d0, d1]) rfl ?_
    refine ⟨boxE_set H1.out.1 _ _, Or.inl ⟨by omega, by omega, by show v < 256 ^ 8; exact HQ.out, mo, mc, rfl, ?_⟩⟩
    show HasB _ (.slice mo (l ++ leN v 8).length mc) (l ++ leN v 8)
    exact boxE_has H1.out.2.2
theorem docPut_calls (lo : Option Addr) (lc : Nat) (l : List Nat) (v : Nat) (hv : v < 18446744073709551616) (n : Int) (w : World) (hl : HasB w (.slice lo l.length lc) l) (hm : l.length ≤ 1048576) (hc : lo = none → lc = 0) :
    Calls Tryd.prog 14 #[.slice lo l.length lc, .int .u64 (v : Int), .int .i64 n] w fun e w' => DocPutIs w l v n e w' := by
  by_cases hn : n < 1 ∨ 8 < n
  · exact docPut_bad lo lc l v n hn w
  · have h8 : n = 1 ∨ n = 2 ∨ n = 3 ∨ n = 4 ∨ n = 5 ∨ n = 6 ∨ n = 7 ∨ n = 8 := by omega
    rcases h8 with rfl | rfl | rfl | rfl | rfl | rfl | rfl | rfl
    · exact docPut_1 lo lc l v hv w hl hm hc
    · exact docPut_2 lo lc l v hv w hl hm hc
    · exact docPut_3 lo lc l v hv w hl hm hc
    · exact docPut_4 lo lc l v hv w hl hm hc
    · exact docPut_5 lo lc l v hv w hl hm hc
    · exact docPut_6 lo lc l v hv w hl hm hc
    · exact docPut_7 lo lc l v hv w hl hm hc
    · exact docPut_8 lo lc l v hv w hl hm hc
end Go.Proofs.YtemdocnhdnhliabDoor
