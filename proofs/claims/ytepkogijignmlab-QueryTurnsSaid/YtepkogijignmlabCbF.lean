/- climb's newClimber and search. -/
import Derived.Test.YtepkogijignmlabCbE
import Derived.Test.YtepkogijignmlabHtC
namespace Go.Proofs.Ytepkogijignmlab.Cb
open Go.RowKit Go.Extern Go.Shelf Hi

attribute [local go_sem] Oper.semAt_some

theorem run_len (row : Nat → List Lk) : ∀ (m r : Nat) (vs : List (Option Int)) (out : List (Nat × Int)), (run row m r vs out).2.length ≤ out.length + m
  | 0, r, vs, out => Nat.le_refl _
  | m + 1, r, vs, out => by
    rw [run]
    split
    · rename_i d hd
      have := run_len row m (r + 1) (relaxs d (row r) vs) (out ++ [(r, d)])
      rw [List.length_append, List.length_singleton] at this
      exact Nat.le_trans this (by omega)
    · have := run_len row m (r + 1) vs out
      omega
set_option maxRecDepth 100000 in
set_option maxHeartbeats 4000000 in
theorem newC_calls (n : Nat) (hn : n ≤ 65536) (w : World) : Calls Try.prog 36 #[.int .i64 (n : Int)] w fun e w' => ∃ L : CP, e = .returned (.tuple #[.pointer (some ⟨L.ci, 0, none⟩), .nilIface]) ∧ Clm w.heap.size w' n L (.slice none 0 0) (List.replicate n none) (fun _ => none) ∧ Below w.heap.size w w' := by
  have HS : Hid (∀ wx : World, Calls Try.prog 39 #[.int .i64 (n : Int), .int .u32 0] wx fun e w' => e = .returned (.tuple #[.pointer (some ⟨wx.heap.size + 1, 0, none⟩), .nilIface]) ∧ St.IsStamp w' (wx.heap.size + 1) wx.heap.size n (List.replicate n none) ∧ Below wx.heap.size wx w') := fun wx => St.new_calls n hn 0 (by omega) (by omega) wx
  have HH : Hid (∀ wx : World, Calls Try.prog 40 #[.int .i64 (n : Int)] wx fun e w' => e = .returned (.tuple #[.pointer (some ⟨wx.heap.size + 1, 0, none⟩), .nilIface]) ∧ Hp.IsHeap w' (wx.heap.size + 1) wx.heap.size n (.slice none 0 0) (fun _ => none) ∧ Below wx.heap.size wx w') := fun wx => Hp.new_calls n hn wx
  go_enter Try.func36, Try.ntmps36
  go_wp2_with fail
  refine (HS.out w).mono ?_
  rintro e w1 ⟨rfl, hs1, hb1⟩
  have H1 : Hid (St.IsStamp w1 (w.heap.size + 1) w.heap.size n (List.replicate n none) ∧ Below w.heap.size w w1) := ⟨hs1, hb1⟩
  clear hs1 hb1
  go_wp2_with fail
  refine (HH.out w1).mono ?_
  rintro e w2 ⟨rfl, hs2, hb2⟩
  have H2 : Hid (Hp.IsHeap w2 (w1.heap.size + 1) w1.heap.size n (.slice none 0 0) (fun _ => none) ∧ Below w1.heap.size w1 w2) := ⟨hs2, hb2⟩
  clear hs2 hb2
  go_wp2
  go_ret2
  have l1 := H1.out.1.lt
  have l2 := H2.out.1.lt
  have q1 := H1.out.2.size
  have q2 := H2.out.2.size
  have hb3 : Below w2.heap.size w2 (w2.alloc (.cells #[.pointer (some ⟨w.heap.size + 1, 0, none⟩), .pointer (some ⟨w1.heap.size + 1, 0, none⟩)] 105)) := (Below.refl _ _).alloc (Nat.le_refl _) _
  refine ⟨⟨w2.heap.size, w.heap.size + 1, w.heap.size, w1.heap.size + 1, w1.heap.size⟩, rfl, ⟨heap_newW _ _, (H1.out.1.below H2.out.2).below hb3, H2.out.1.below hb3, ⟨?_, ?_, ?_, ?_, ?_, ?_, ?_, ?_⟩, ?_, ?_, ?_, ?_⟩, H1.out.2.trans ((H2.out.2.mono q1).trans (hb3.mono (by omega)))⟩
  · show w2.heap.size ≠ w.heap.size + 1; omega
  · show w2.heap.size ≠ w.heap.size; omega
  · show w2.heap.size ≠ w1.heap.size + 1; omega
  · show w2.heap.size ≠ w1.heap.size; omega
  · show w.heap.size + 1 ≠ w1.heap.size + 1; omega
  · show w.heap.size + 1 ≠ w1.heap.size; omega
  · show w.heap.size ≠ w1.heap.size + 1; omega
  · show w.heap.size ≠ w1.heap.size; omega
  · simp [Value.ownBlock]
  · simp [Value.ownBlock]
  · simp [Value.ownBlock]
  · rintro k (o | o | o | o | o | o)
    · simp at o; omega
    · simp at o; omega
    · simp at o; omega
    · simp at o; omega
    · simp at o; omega
    · simp [Value.ownBlock] at o
/-- a list of links by their lower ends, in memory and in form. -/
structure RowsOk (w : World) (n : Nat) (fo lo : Option Addr) (fc lc : Nat) (F : List Nat) (Ls : List Lk) : Prop where
  fs : HasWs w (.slice fo F.length fc) F
  ls : HasLs w (.slice lo Ls.length lc) Ls
  ok : FOk F Ls.length
  len : F.length = n + 1
  few : Ls.length ≤ 1048576
  form : ∀ r, r < n → ∀ l ∈ rowL F Ls r, r < l.hd ∧ l.hd < n ∧ l.wt ≤ 140737488355328

set_option maxRecDepth 100000 in
set_option maxHeartbeats 4000000 in
theorem search_good (v : HV) (h : Hr) (s : Nat) (fo lo : Option Addr) (fc lc : Nat) (F : List Nat) (Ls : List Lk) (fo' lo' : Option Addr) (fc' lc' : Nat) (F' : List Nat) (Ls' : List Lk) (w : World) (hH : HasH w v h) (hc : chk h = (0, [])) (hs : s < h.node.length) (ha : RowsOk w h.node.length fo lo fc lc F Ls) (hb : RowsOk w h.node.length fo' lo' fc' lc' F' Ls') :
    Calls Try.prog 34 #[hvl v h, .int .i64 (s : Int), .agg #[.slice fo F.length fc, .slice lo Ls.length lc], .agg #[.slice fo' F'.length fc', .slice lo' Ls'.length lc']] w fun e w' => ∃ (mo : Option Addr) (mc : Nat) (X : List (Nat × Int × Bool)), X = climbed h.node.length s (rowL F Ls) (rowL F' Ls') ∧ e = .returned (.tuple #[.slice mo X.length mc, .nilIface]) ∧ w'.ownsRow w.heap.size 91 3 (.slice mo X.length mc) X.length (snv X) ∧ Below w.heap.size w w' := by
  obtain ⟨k1, k2, k3, k4, k5, k6, k7, k8⟩ := chk_ok hc
  obtain ⟨z, hz⟩ : ∃ z, w.heap.size = z := ⟨_, rfl⟩
  obtain ⟨W0, hW0⟩ : ∃ W0, ((w.alloc (.cells (cellsH v h) 25)).alloc (.cells #[.slice fo F.length fc, .slice lo Ls.length lc] 89)).alloc (.cells #[.slice fo' F'.length fc', .slice lo' Ls'.length lc'] 89) = W0 := ⟨_, rfl⟩
  have hB0 : Below w.heap.size w W0 := by rw [← hW0]; exact (((Below.refl _ w).alloc (Nat.le_refl _) _).alloc (by simp) _).alloc (by simp; omega) _
  have h0 : W0.heap[z]? = some (.cells (cellsH v h) 25) := by
    rw [← hW0, ← hz]; exact ((Below.heap_alloc _ _ _ (by simp; omega)).trans (Below.heap_alloc _ _ _ (by simp))).trans (heap_newW _ _)
  have h1 : W0.heap[z + 1]? = some (.cells #[.slice fo F.length fc, .slice lo Ls.length lc] 89) := by
    rw [← hW0, ← hz]
    have g := heap_newW (w.alloc (.cells (cellsH v h) 25)) (.cells #[.slice fo F.length fc, .slice lo Ls.length lc] 89)
    rw [World.size_alloc] at g
    exact (Below.heap_alloc _ _ _ (by simp)).trans g
  have h2 : W0.heap[z + 1 + 1]? = some (.cells #[.slice fo' F'.length fc', .slice lo' Ls'.length lc'] 89) := by
    rw [← hW0, ← hz]
    have g := heap_newW ((w.alloc (.cells (cellsH v h) 25)).alloc (.cells #[.slice fo F.length fc, .slice lo Ls.length lc] 89)) (.cells #[.slice fo' F'.length fc', .slice lo' Ls'.length lc'] 89)
    rw [World.size_alloc, World.size_alloc] at g
    exact g
  have HQ : Hid (∀ wx, Below W0.heap.size W0 wx → ((wx.cell? ⟨z, 0, none⟩ = some (.slice v.no h.node.length v.nc) ∧ wx.cell? ⟨z, 1, none⟩ = some (.slice v.uo h.upF.length v.uc) ∧ wx.cell? ⟨z, 2, none⟩ = some (.slice v.ul h.up.length v.ulc) ∧ wx.cell? ⟨z, 3, none⟩ = some (.slice v.wo h.dnF.length v.wc) ∧ wx.cell? ⟨z, 4, none⟩ = some (.slice v.dl h.dn.length v.dlc)) ∧ (wx.cell? ⟨z + 1, 0, none⟩ = some (.slice fo F.length fc) ∧ wx.cell? ⟨z + 1, 1, none⟩ = some (.slice lo Ls.length lc)) ∧ wx.cell? ⟨z + 1 + 1, 0, none⟩ = some (.slice fo' F'.length fc') ∧ wx.cell? ⟨z + 1 + 1, 1, none⟩ = some (.slice lo' Ls'.length lc')) ∧ Below w.heap.size w wx) := fun wx hx => by
    have f0 := (hx.block _ (some_lt h0)).trans h0
    have f1 := (hx.block _ (some_lt h1)).trans h1
    have f2 := (hx.block _ (some_lt h2)).trans h2
    exact ⟨⟨five_cells f0, by simp [World.cell?, f1], by simp [World.cell?, f2]⟩, hB0.trans (hx.mono hB0.size)⟩
  have HCK : Hid (Calls Try.prog 7 #[hvl v h] W0 fun e w' => e = .returned .nilIface ∧ Below W0.heap.size W0 w') := check_ok (hH.keep hB0) hc
  have HW0 : Hid (((w.alloc (.cells (cellsH v h) 25)).alloc (.cells #[.slice fo F.length fc, .slice lo Ls.length lc] 89)).alloc (.cells #[.slice fo' F'.length fc', .slice lo' Ls'.length lc'] 89) = W0) := hW0
  obtain ⟨n, hn⟩ : ∃ n, h.node.length = n := ⟨_, rfl⟩
  rw [hn] at ha hb hs k1
  have HA : Hid (RowsOk w n fo lo fc lc F Ls ∧ RowsOk w n fo' lo' fc' lc' F' Ls') := ⟨ha, hb⟩
  have HN : Hid (h.node.length = n) := hn
  rw [hn] at HQ
  obtain ⟨⟨⟨c0, c1, c2, c3, c4⟩, ⟨d0, d1⟩, e0, e1⟩, _⟩ := HQ.out W0 (Below.refl _ _)
  have i1 : decide ((s : Int) < 0) = false := by simp
  have i2 : decide ((n : Int) ≤ (s : Int)) = false := by simp; omega
  have i3 : IntKind.u32.wrap (s : Int) = (s : Int) := by rw [IntKind.wrap_u32]; omega
  have HZ : Hid (w.heap.size = z) := hz
  rw [hn]
  clear hW0 h0 h1 h2 hB0 hH hc k2 k3 k4 k5 k6 k7 k8 ha hb
  unfold cellsH at HW0
  unfold hvl at HCK ⊢
  rw [hn] at HCK HW0 ⊢
  clear hn
  go_enter Try.func34, Try.ntmps34
  go_upto_region 1 with fail
  rw [HW0.out]
  go_wp2_with fail
  refine HCK.out.mono ?_
  rintro e w1 ⟨rfl, hb1⟩
  have HB1 : Hid (Below W0.heap.size W0 w1) := hb1
  clear hb1 c0 c1 c2 c3 c4 d0 d1 e0 e1
  obtain ⟨⟨⟨c0, c1, c2, c3, c4⟩, ⟨d0, d1⟩, e0, e1⟩, _⟩ := HQ.out w1 HB1.out
  go_wp2_with fail
  refine (newC_calls n k1 w1).mono ?_
  rintro e w2 ⟨L, rfl, hC2, hb2⟩
  have HC2 : Hid (Clm w1.heap.size w2 n L (.slice none 0 0) (List.replicate n none) (fun _ => none) ∧ Below w1.heap.size w1 w2) := ⟨hC2, hb2⟩
  have HUP : Hid (∀ wx, Below w1.heap.size w1 wx → Below W0.heap.size W0 wx) := fun wx hx => HB1.out.trans (hx.mono HB1.out.size)
  have HMA : Hid (∀ wx, Below w1.heap.size w1 wx → (HasWs wx (.slice fo F.length fc) F ∧ HasLs wx (.slice lo Ls.length lc) Ls) ∧ HasWs wx (.slice fo' F'.length fc') F' ∧ HasLs wx (.slice lo' Ls'.length lc') Ls') := fun wx hx => by
    have g := (HQ.out wx (HUP.out wx hx)).2
    exact ⟨⟨HA.out.1.fs.keep g, HA.out.1.ls.keep g⟩, HA.out.2.fs.keep g, HA.out.2.ls.keep g⟩
  clear hC2 hb2 c0 c1 c2 c3 c4 d0 d1 e0 e1
  obtain ⟨⟨⟨c0, c1, c2, c3, c4⟩, ⟨d0, d1⟩, e0, e1⟩, _⟩ := HQ.out w2 (HUP.out w2 HC2.out.2)
  go_wp2_with fail
  refine (reached_calls fo lo fc lc F Ls HC2.out.1 HC2.out.2.size hs k1 HA.out.1.ok HA.out.1.len HA.out.1.few (fun wx hx => (HMA.out wx (HC2.out.2.trans hx)).1) HA.out.1.form).mono ?_
  rintro e w3 ⟨sv3, mo, mc, r, vs, out, hrun, rfl, hC3, ho3, hb3, hlow3⟩
  have H3 : Hid (Clm w1.heap.size w3 n L sv3 vs (waits vs r) ∧ w3.ownsRow w1.heap.size 91 3 (.slice mo out.length mc) out.length (snv (out.map nos)) ∧ Below w1.heap.size w1 w3 ∧ Low vs) := ⟨hC3, ho3, HC2.out.2.trans hb3, hlow3⟩
  have HRUN : Hid (run (rowL F Ls) n 0 (start n s) [] = (vs, out)) := hrun
  have HOUT : Hid ((∀ x ∈ out, x.1 < n) ∧ out.length ≤ n) := by
    have g1 := run_out (rowL F Ls) n 0 (start n s) []
    have g2 := run_len (rowL F Ls) n 0 (start n s) []
    rw [hrun] at g1 g2
    refine ⟨fun x hx => ?_, by simpa using g2⟩
    rcases g1 x hx with g | g
    · simp at g
    · omega
  clear hC3 ho3 hb3 hlow3 hrun c0 c1 c2 c3 c4 d0 d1 e0 e1
  obtain ⟨⟨⟨c0, c1, c2, c3, c4⟩, ⟨d0, d1⟩, e0, e1⟩, _⟩ := HQ.out w3 (HUP.out w3 H3.out.2.2.1)
  go_wp2_with fail
  refine (stall_calls fo' lo' fc' lc' F' Ls' out H3.out.1 H3.out.2.2.1.size H3.out.2.1 HOUT.out.1 (Nat.le_trans HOUT.out.2 k1) H3.out.2.2.2 k1 HA.out.2.ok HA.out.2.len HA.out.2.few (fun wx hx => (HMA.out wx (H3.out.2.2.1.trans hx)).2) HA.out.2.form).mono ?_
  rintro e w4 ⟨rfl, ho4, hb4⟩
  have H4 : Hid (w4.ownsRow w1.heap.size 91 3 (.slice mo out.length mc) out.length (snv (out.map (stl vs (rowL F' Ls')))) ∧ Below w1.heap.size w1 w4) := ⟨ho4, H3.out.2.2.1.trans hb4⟩
  clear ho4 hb4 c0 c1 c2 c3 c4 d0 d1 e0 e1
  go_wp2
  go_ret2
  have hlen : (out.map (stl vs (rowL F' Ls'))).length = out.length := List.length_map ..
  refine ⟨mo, mc, out.map (stl vs (rowL F' Ls')), ?_, by rw [hlen]; rfl, ?_, (HQ.out w4 (HUP.out w4 H4.out.2)).2⟩
  · unfold climbed
    rw [HRUN.out]
    rfl
  · rw [hlen]
    exact own_mono H4.out.1 (Nat.le_trans (HQ.out W0 (Below.refl _ _)).2.size HB1.out.size)

/-- what a search refuses. -/
def Refuses (h : Hr) (s : Int) : Prop := chk h ≠ (0, []) ∨ s < 0 ∨ (h.node.length : Int) ≤ s

set_option maxRecDepth 100000 in
set_option maxHeartbeats 4000000 in
theorem search_bad (v : HV) (h : Hr) (s : Int) (fo lo : Option Addr) (k1 k2 fc lc : Nat) (fo' lo' : Option Addr) (k1' k2' fc' lc' : Nat) (w : World) (hH : HasH w v h) (hb1 : h.up.length ≤ 1152921504606846976) (hb2 : h.dn.length ≤ 1152921504606846976) (hb3 : h.node.length ≤ 1152921504606846976) (hr : Refuses h s) :
    Calls Try.prog 34 #[hvl v h, .int .i64 s, .agg #[.slice fo k1 fc, .slice lo k2 lc], .agg #[.slice fo' k1' fc', .slice lo' k2' lc']] w fun e w' => ∃ T x, e = .returned (.tuple #[.slice none 0 0, .iface T x]) ∧ Below w.heap.size w w' := by
  obtain ⟨z, hz⟩ : ∃ z, w.heap.size = z := ⟨_, rfl⟩
  obtain ⟨W0, hW0⟩ : ∃ W0, ((w.alloc (.cells (cellsH v h) 25)).alloc (.cells #[.slice fo k1 fc, .slice lo k2 lc] 89)).alloc (.cells #[.slice fo' k1' fc', .slice lo' k2' lc'] 89) = W0 := ⟨_, rfl⟩
  have hB0 : Below w.heap.size w W0 := by rw [← hW0]; exact (((Below.refl _ w).alloc (Nat.le_refl _) _).alloc (by simp) _).alloc (by simp; omega) _
  have h0 : W0.heap[z]? = some (.cells (cellsH v h) 25) := by
    rw [← hW0, ← hz]; exact ((Below.heap_alloc _ _ _ (by simp; omega)).trans (Below.heap_alloc _ _ _ (by simp))).trans (heap_newW _ _)
  have HQ : Hid (∀ wx, Below W0.heap.size W0 wx → (wx.cell? ⟨z, 0, none⟩ = some (.slice v.no h.node.length v.nc) ∧ wx.cell? ⟨z, 1, none⟩ = some (.slice v.uo h.upF.length v.uc) ∧ wx.cell? ⟨z, 2, none⟩ = some (.slice v.ul h.up.length v.ulc) ∧ wx.cell? ⟨z, 3, none⟩ = some (.slice v.wo h.dnF.length v.wc) ∧ wx.cell? ⟨z, 4, none⟩ = some (.slice v.dl h.dn.length v.dlc)) ∧ Below w.heap.size w wx) := fun wx hx => ⟨five_cells ((hx.block _ (some_lt h0)).trans h0), hB0.trans (hx.mono hB0.size)⟩
  have HCK : Hid (Calls Try.prog 7 #[hvl v h] W0 fun e w' => ∃ u, e = .returned u ∧ IsTold w' (chk h) u ∧ Below W0.heap.size W0 w') := check_calls v h W0 (hH.keep hB0) hb1 hb2 hb3
  have HW0 : Hid (((w.alloc (.cells (cellsH v h) 25)).alloc (.cells #[.slice fo k1 fc, .slice lo k2 lc] 89)).alloc (.cells #[.slice fo' k1' fc', .slice lo' k2' lc'] 89) = W0) := hW0
  have HR : Hid (Refuses h s) := hr
  obtain ⟨⟨c0, c1, c2, c3, c4⟩, _⟩ := HQ.out W0 (Below.refl _ _)
  clear hW0 h0 hB0 hH hr
  unfold cellsH at HW0
  unfold hvl at HCK ⊢
  go_enter Try.func34, Try.ntmps34
  go_upto_region 1 with fail
  rw [HW0.out]
  go_wp2_with fail
  refine HCK.out.mono ?_
  rintro e w1 ⟨u, rfl, ht, hbb1⟩
  have HB1 : Hid (Below W0.heap.size W0 w1) := hbb1
  by_cases hc : chk h = (0, [])
  · rw [hc] at ht
    have hu := isTold_nil ht
    subst hu
    have hs : s < 0 ∨ (h.node.length : Int) ≤ s := HR.out.resolve_left (fun g => g hc)
    clear hbb1 c0 c1 c2 c3 c4 ht hc
    obtain ⟨⟨c0, c1, c2, c3, c4⟩, _⟩ := HQ.out w1 HB1.out
    by_cases hneg : s < 0
    · have i1 : decide (s < 0) = true := by simpa using hneg
      clear hs
      go_wp2
      go_ret2
      exact ⟨_, _, rfl, (HQ.out w1 HB1.out).2⟩
    · have i1 : decide (s < 0) = false := by simpa using hneg
      have hge : (h.node.length : Int) ≤ s := hs.resolve_left hneg
      have i2 : decide ((h.node.length : Int) ≤ s) = true := by simpa using hge
      clear hs
      go_wp2
      go_ret2
      exact ⟨_, _, rfl, (HQ.out w1 HB1.out).2⟩
  · obtain ⟨tt, xx, hu1, _⟩ := isTold_some ht hc
    subst hu1
    clear hbb1 c0 c1 c2 c3 c4 ht
    go_wp2
    go_ret2
    exact ⟨tt, xx, rfl, (HQ.out w1 HB1.out).2⟩
/-- the rows of a hierarchy in form. -/
theorem rows_up {v : HV} {h : Hr} {w : World} (hH : HasH w v h) (hc : chk h = (0, [])) : RowsOk w h.node.length v.uo v.ul v.uc v.ulc h.upF h.up := by
  obtain ⟨k1, k2, k3, k4, k5, k6, k7, k8⟩ := chk_ok hc
  exact ⟨hH.upF, hH.up, k5, k3, by omega, fun r hr l hl => row_form hc hr (Or.inl hl)⟩
theorem rows_dn {v : HV} {h : Hr} {w : World} (hH : HasH w v h) (hc : chk h = (0, [])) : RowsOk w h.node.length v.wo v.dl v.wc v.dlc h.dnF h.dn := by
  obtain ⟨k1, k2, k3, k4, k5, k6, k7, k8⟩ := chk_ok hc
  exact ⟨hH.dnF, hH.dn, k6, k4, by omega, fun r hr l hl => row_form hc hr (Or.inr hl)⟩
end Go.Proofs.Ytepkogijignmlab.Cb
