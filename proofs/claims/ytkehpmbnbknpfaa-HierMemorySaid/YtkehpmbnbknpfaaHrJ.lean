/- hier.Ends. -/
import Derived.Test.YtkehpmbnbknpfaaHrI
namespace Go.Proofs.Ytkehpmbnbknpfaa.Hi
open Go.RowKit Go.Extern Go.Shelf

attribute [local go_sem] Oper.semAt_some

theorem chk_ok {h : Hr} (hc : chk h = (0, [])) : h.node.length ≤ 65536 ∧ h.up.length + h.dn.length ≤ 1048576 ∧ h.upF.length = h.node.length + 1 ∧ h.dnF.length = h.node.length + 1 ∧ FOk h.upF h.up.length ∧ FOk h.dnF h.dn.length ∧ cn h.node = (0, []) ∧ cl h.node.length (stds h) = (0, []) := by
  unfold chk at hc
  split at hc
  · simp at hc
  · rename_i h1
    split at hc
    · simp at hc
    · rename_i h2
      simp only [not_or, Nat.not_lt] at h1
      simp only [not_or, ne_eq, Decidable.not_not] at h2
      obtain ⟨e1, hc⟩ := orE_ok.1 hc
      obtain ⟨e2, hc⟩ := orE_ok.1 hc
      obtain ⟨e3, e4⟩ := orE_ok.1 hc
      exact ⟨h1.1, h1.2, h2.1, h2.2, (cf_ok (by omega)).1 e1, (cf_ok (by omega)).1 e2, e3, e4⟩
/-- what Ends answers of a hierarchy in form. -/
def endsE (h : Hr) (i : Int) : Int × Int × (Int × List (Int × Int)) := if 0 ≤ i ∧ i < ((stds h).length : Int) then (((sd (stds h) i.toNat).tail : Int), ((sd (stds h) i.toNat).head : Int), (0, [])) else (0, 0, (1, []))
/-- while Ends looks for the link. -/
structure ENI (w : World) (v : HV) (h : Hr) (z : Nat) (i : Int) (r1 r2 r3 : Value) (Wc : World) : Prop where
  bi : Boxed Wc (z + 1) 3 (.int .i64 i)
  b1 : Boxed Wc (z + 1 + 1) 3 r1
  b2 : Boxed Wc (z + 1 + 1 + 1) 3 r2
  b3 : Boxed Wc (z + 1 + 1 + 1 + 1) 30 r3
  bx : Wc.heap[z]? = some (.cells (cellsH v h) 25)
  bl : Below z w Wc
theorem ENI.below {w : World} {v : HV} {h : Hr} {z : Nat} {i : Int} {r1 r2 r3 : Value} {A C : World} {B : Nat} (g : ENI w v h z i r1 r2 r3 A) (hb : Below B A C) (hB : z + 1 + 1 + 1 + 1 < B) : ENI w v h z i r1 r2 r3 C :=
  ⟨(hb.block _ (by omega)).trans g.bi, (hb.block _ (by omega)).trans g.b1, (hb.block _ (by omega)).trans g.b2, (hb.block _ (by omega)).trans g.b3, (hb.block _ (by omega)).trans g.bx, g.bl.trans (hb.mono (by omega))⟩

theorem ENI.set3 {w : World} {v : HV} {h : Hr} {z : Nat} {i : Int} {r1 r2 r3 : Value} {A : World} (g : ENI w v h z i r1 r2 r3 A) (x1 x2 x3 : Value) : ENI w v h z i x1 x2 x3 (((A.setCell ⟨z + 1 + 1, 0, none⟩ x1).setCell ⟨z + 1 + 1 + 1, 0, none⟩ x2).setCell ⟨z + 1 + 1 + 1 + 1, 0, none⟩ x3) := by
  have ne : ∀ k, k ≠ z + 1 + 1 → k ≠ z + 1 + 1 + 1 → k ≠ z + 1 + 1 + 1 + 1 → (((A.setCell ⟨z + 1 + 1, 0, none⟩ x1).setCell ⟨z + 1 + 1 + 1, 0, none⟩ x2).setCell ⟨z + 1 + 1 + 1 + 1, 0, none⟩ x3).heap[k]? = A.heap[k]? := fun k h1 h2 h3 => (Below.heap_setCell _ _ _ _ h3).trans ((Below.heap_setCell _ _ _ _ h2).trans (Below.heap_setCell _ _ _ _ h1))
  refine ⟨(ne _ (by omega) (by omega) (by omega)).trans g.bi, ?_, ?_, ?_, (ne _ (by omega) (by omega) (by omega)).trans g.bx, ?_⟩
  · exact ((g.b1.set x1).other (by omega) _).other (by omega) _
  · exact ((g.b2.other (by omega) _).set x2).other (by omega) _
  · exact (((g.b3.other (by omega) _).other (by omega) _)).set x3
  · exact ((g.bl.setCell (p := ⟨z + 1 + 1, 0, none⟩) (by show z ≤ z + 1 + 1; omega) _).setCell (p := ⟨z + 1 + 1 + 1, 0, none⟩) (by show z ≤ z + 1 + 1 + 1; omega) _).setCell (p := ⟨z + 1 + 1 + 1 + 1, 0, none⟩) (by show z ≤ z + 1 + 1 + 1 + 1; omega) _
theorem keeps_set3 {Tn : Obj → Prop} {B z : Nat} {W A : World} (h : KeepsT Tn B W A) (hB : z + 1 + 1 + 1 + 1 < B) (x1 x2 x3 : Value) : KeepsT Tn B W (((A.setCell ⟨z + 1 + 1, 0, none⟩ x1).setCell ⟨z + 1 + 1 + 1, 0, none⟩ x2).setCell ⟨z + 1 + 1 + 1 + 1, 0, none⟩ x3) :=
  ((h.setCell (p := ⟨z + 1 + 1, 0, none⟩) (Or.inl (by show z + 1 + 1 < B; omega)) _).setCell (p := ⟨z + 1 + 1 + 1, 0, none⟩) (Or.inl (by show z + 1 + 1 + 1 < B; omega)) _).setCell (p := ⟨z + 1 + 1 + 1 + 1, 0, none⟩) (Or.inl hB) _
theorem keepsT_below {Tn : Obj → Prop} {B : Nat} {A C : World} (h : Below A.heap.size A C) : KeepsT Tn B A C := ⟨h.size, fun _ _ _ hk _ => (h.block _ (some_lt hk)).trans hk⟩
theorem ends_res {W : World} {z : Nat} {x y : Int} {u : Value} {tmps : Array Value} (h1 : Boxed W (z + 1 + 1) 3 (.int .i64 x)) (h2 : Boxed W (z + 1 + 1 + 1) 3 (.int .i64 y)) (h3 : Boxed W (z + 1 + 1 + 1 + 1) 30 u) (t4 : tmps[4]?.getD undef = .pointer (some ⟨z + 1 + 1, 0, none⟩)) (t5 : tmps[5]?.getD undef = .pointer (some ⟨z + 1 + 1 + 1, 0, none⟩)) (t6 : tmps[6]?.getD undef = .pointer (some ⟨z + 1 + 1 + 1 + 1, 0, none⟩)) :
    (results Try.f18 tmps).run Try.prog W = .ok (.tuple #[.int .i64 x, .int .i64 y, u]) W := by
  have c1 := h1.cell
  have c2 := h2.cell
  have c3 := h3.cell
  simp [results, Try.results18, go_sem, t4, t5, t6, c1, c2, c3]

set_option maxRecDepth 100000 in
set_option maxHeartbeats 8000000 in
theorem ends_calls (v : HV) (h : Hr) (i : Int) (w : World) (hH : HasH w v h) (hb1 : h.up.length ≤ 1152921504606846976) (hb2 : h.dn.length ≤ 1152921504606846976) (hb3 : h.node.length ≤ 1152921504606846976) :
    Calls Try.prog 18 #[hvl v h, .int .i64 i] w fun e w' => ∃ x y u, e = .returned (.tuple #[.int .i64 x, .int .i64 y, u]) ∧ Below w.heap.size w w' ∧
      ((chk h = (0, []) ∧ (x, y, (0, [])) = endsE h i ∧ u = .nilIface) ∨ (chk h = (0, []) ∧ (x, y, (1, [])) = endsE h i ∧ IsTold w' (1, []) u) ∨ (chk h ≠ (0, []) ∧ x = 0 ∧ y = 0 ∧ IsTold w' (chk h) u)) := by
  refine (callsIn_wide (n := 5)).1 (callsIn_of_wp_marks Try.func18 rfl trivial (wpIn_wide.2 (wp_quiet ?_)) rfl)
  obtain ⟨z, hz⟩ : ∃ z, w.heap.size = z := ⟨_, rfl⟩
  have HZ : Hid (w.heap.size = z) := hz
  have HH : Hid (HasH w v h) := hH
  obtain ⟨W0, hW0⟩ : ∃ W0, ((((w.alloc (.cells (cellsH v h) 25)).alloc (.cells #[.int .i64 i] 3)).alloc (.cells #[.int .i64 0] 3)).alloc (.cells #[.int .i64 0] 3)).alloc (.cells #[.nilIface] 30) = W0 := ⟨_, rfl⟩
  have hE0 : ENI w v h z i (.int .i64 0) (.int .i64 0) .nilIface W0 := by
    rw [← hW0, ← hz]
    refine ⟨?_, ?_, ?_, ?_, ?_, ?_⟩
    · have g := (((Boxed.new (w.alloc (.cells (cellsH v h) 25)) 3 (.int .i64 i)).alloc (.cells #[.int .i64 0] 3)).alloc (.cells #[.int .i64 0] 3)).alloc (.cells #[.nilIface] 30)
      rw [World.size_alloc] at g
      exact g
    · have g := ((Boxed.new ((w.alloc (.cells (cellsH v h) 25)).alloc (.cells #[.int .i64 i] 3)) 3 (.int .i64 0)).alloc (.cells #[.int .i64 0] 3)).alloc (.cells #[.nilIface] 30)
      rw [World.size_alloc, World.size_alloc] at g
      exact g
    · have g := (Boxed.new (((w.alloc (.cells (cellsH v h) 25)).alloc (.cells #[.int .i64 i] 3)).alloc (.cells #[.int .i64 0] 3)) 3 (.int .i64 0)).alloc (.cells #[.nilIface] 30)
      rw [World.size_alloc, World.size_alloc, World.size_alloc] at g
      exact g
    · have g := Boxed.new ((((w.alloc (.cells (cellsH v h) 25)).alloc (.cells #[.int .i64 i] 3)).alloc (.cells #[.int .i64 0] 3)).alloc (.cells #[.int .i64 0] 3)) 30 .nilIface
      rw [World.size_alloc, World.size_alloc, World.size_alloc, World.size_alloc] at g
      exact g
    · exact ((Below.heap_alloc _ _ _ (by simp; omega)).trans ((Below.heap_alloc _ _ _ (by simp; omega)).trans ((Below.heap_alloc _ _ _ (by simp; omega)).trans (Below.heap_alloc _ _ _ (by simp))))).trans (heap_newW _ _)
    · exact (((((Below.refl _ _).alloc (Nat.le_refl _) _).alloc (by simp) _).alloc (by simp; omega) _).alloc (by simp; omega) _).alloc (by simp; omega) _
  have hs0 : W0.heap.size = z + 1 + 1 + 1 + 1 + 1 := by rw [← hW0]; simp [hz]
  have HW0 : Hid (((((w.alloc (.cells (cellsH v h) 25)).alloc (.cells #[.int .i64 i] 3)).alloc (.cells #[.int .i64 0] 3)).alloc (.cells #[.int .i64 0] 3)).alloc (.cells #[.nilIface] 30) = W0) := hW0
  have HE0 : Hid (ENI w v h z i (.int .i64 0) (.int .i64 0) .nilIface W0) := hE0
  have HCK : Hid (Calls Try.prog 19 #[hvl v h] W0 fun e w' => ∃ u, e = .returned u ∧ IsTold w' (chk h) u ∧ Below W0.heap.size W0 w') := check_calls v h W0 (hH.keep (by rw [hz]; exact hE0.bl)) hb1 hb2 hb3
  obtain ⟨c0, c1, c2, c3, c4⟩ := five_cells hE0.bx
  clear hW0 hE0 hH
  unfold hvl at HCK ⊢
  unfold cellsH at HW0
  simp only [List.size_toArray, List.length_cons, List.length_nil, Try.ntmps18, Nat.reduceAdd, Nat.reduceSub, Array.replicate_succ, Array.replicate_zero, List.push_toArray, List.append_toArray, List.nil_append, List.cons_append]
  go_upto_region 1 with fail
  rw [HW0.out]
  have HTOP : Hid (∀ wx u, IsTold wx (chk h) u → Below W0.heap.size W0 wx → ENI w v h z i (.int .i64 0) (.int .i64 0) .nilIface wx) := fun wx u _ hb => HE0.out.below hb (by omega)
  by_cases hck : chk h = (0, [])
  · obtain ⟨k1, k2, k3, k4, k5, k6, k7, k8⟩ := chk_ok hck
    have HK : Hid (h.node.length ≤ 65536 ∧ h.up.length + h.dn.length ≤ 1048576 ∧ h.upF.length = h.node.length + 1 ∧ h.dnF.length = h.node.length + 1 ∧ FOk h.upF h.up.length ∧ FOk h.dnF h.dn.length) := ⟨k1, k2, k3, k4, k5, k6⟩
    have HC : Hid (chk h = (0, [])) := hck
    rw [hck] at HCK
    clear hck k1 k2 k3 k4 k5 k6 k7 k8
    go_wp2_with (first | (go_at_call 19; refine HCK.out.mono ?_; rintro e w1 ⟨u, rfl, htu, hbu⟩; have hu0 := isTold_nil htu; subst hu0; have HE1 : Hid (ENI w v h z i (.int .i64 0) (.int .i64 0) .nilIface w1 ∧ z + 1 + 1 + 1 + 1 < w1.heap.size) := ⟨HE0.out.below hbu (by omega), by have := hbu.size; omega⟩; obtain ⟨k0, k1, k2, k3, k4⟩ := five_cells HE1.out.1.bx; clear htu hbu) | (go_at_call 26; refine (links_calls v h _).mono ?_; rintro e w' ⟨rfl, rfl⟩))
    obtain ⟨y, hy⟩ : ∃ y, w1.heap.size = y := ⟨_, rfl⟩
    have hyz : z + 1 + 1 + 1 + 1 < y := by have := HE1.out.2; omega
    have hI0 : (ENI w v h z i (.int .i64 0) (.int .i64 0) .nilIface (w1.alloc (.cells (cellsH v h) 25)) ∧ (w1.alloc (.cells (cellsH v h) 25)).heap[y]? = some (.cells (cellsH v h) 25)) ∧ ∀ k, k < ([] : List (Nat × Sd)).length → (k : Int) ≠ i := by
      refine ⟨⟨HE1.out.1.below ((Below.refl _ _).alloc (Nat.le_refl _) _) HE1.out.2, ?_⟩, fun k hk => by simp at hk⟩
      have g := heap_newW w1 (.cells (cellsH v h) 25)
      rw [hy] at g
      exact g
    have hs1 : (w1.alloc (.cells (cellsH v h) 25)).heap.size = y + 1 := by simp [hy]
    generalize w1.alloc (.cells (cellsH v h) 25) = W2 at *
    rw [hy]
    clear hy c0 c1 c2 c3 c4 k0 k1 k2 k3 k4
    have HSO : Hid (∀ s ∈ stds h, s.ok) := stds_ok HK.out.2.2.2.2.1 HK.out.2.2.2.2.2 (by have := HK.out.2.2.1; have := HK.out.1; omega) (by have := HK.out.2.2.2.1; have := HK.out.1; omega) HH.out.up.ok HH.out.dn.ok
    have HI : AbT TnI W2.heap.size (fun (p : List (Nat × Sd)) Wc => (ENI w v h z i (.int .i64 0) (.int .i64 0) .nilIface Wc ∧ Wc.heap[y]? = some (.cells (cellsH v h) 25)) ∧ ∀ k, k < p.length → (k : Int) ≠ i) := by
      rw [hs1]; exact fun s A C hs ht => ⟨⟨hs.1.1.below ht.below (by omega), (ht.below.block _ (by omega)).trans hs.1.2⟩, hs.2⟩
    have HIx : AbT TnI W2.heap.size (fun (p : List (Nat × Sd)) Wc => ∃ (k : Nat) (s : Sd), (k : Int) = i ∧ (stds h)[k]? = some s ∧ ENI w v h z i (.int .i64 (s.tail : Int)) (.int .i64 (s.head : Int)) .nilIface Wc) := by
      rw [hs1]; rintro s A C ⟨k, q, h1, h2, h3⟩ ht; exact ⟨k, q, h1, h2, h3.below ht.below (by omega)⟩
    refine (wpIn_wide (n := 5)).1 ?_
    refine wp_over (xs := numd 0 (stds h)) rfl (fun h => (by cases h)) (gf := 47) (lb := #[.pointer (some ⟨y, 0, none⟩)]) rfl trivial (enters_of Try.func47 (by kernel_rfl) rfl)
      (links1_seq _ y v h HK.out.2.2.2.2.1 HK.out.2.2.2.2.2 (by have := HK.out.2.2.1; have := HK.out.1; omega) (by have := HK.out.2.2.2.1; have := HK.out.1; omega) (by have := HK.out.2.1; omega) (by have := HK.out.2.1; omega) (y + 1) (by omega)) (by rw [hs1]; exact Nat.le_refl _) (fun _ => Or.inl rfl) (fun _ => Or.inl rfl) (fun _ => rfl) _ _ HI HIx (fun pre Wc hi => ⟨hi.1.2, HH.out.keep (by rw [HZ.out]; exact hi.1.1.bl)⟩) hI0
      (fun x a' Wc => ∃ Bx, Wc.heap[Bx]? = some (.cells (sixC x.2) 73) ∧ y + 1 ≤ Bx ∧ a' = { tmps := #[.agg #[.slice v.no h.node.length v.nc, .slice v.uo h.upF.length v.uc, .slice v.ul h.up.length v.ulc, .slice v.wo h.dnF.length v.wc, .slice v.dl h.dn.length v.dlc], .int .i64 i, .pointer (some ⟨z, 0, none⟩), .pointer (some ⟨z + 1, 0, none⟩), .pointer (some ⟨z + 1 + 1, 0, none⟩), .pointer (some ⟨z + 1 + 1 + 1, 0, none⟩), .pointer (some ⟨z + 1 + 1 + 1 + 1, 0, none⟩), .nilIface, .int .i64 (x.1 : Int), .pointer (some ⟨Bx, 0, none⟩), .agg #[.slice v.no h.node.length v.nc, .slice v.uo h.upF.length v.uc, .slice v.ul h.up.length v.ulc, .slice v.wo h.dnF.length v.wc, .slice v.dl h.dn.length v.dlc], .nilIface, .nilIface, .bool false, undef, .agg #[.slice v.no h.node.length v.nc, .slice v.uo h.upF.length v.uc, .slice v.ul h.up.length v.ulc, .slice v.wo h.dnF.length v.wc, .slice v.dl h.dn.length v.dlc], .func (.func 47) #[] #[.pointer (some ⟨y, 0, none⟩)], .int .i64 (x.1 : Int), svl x.2, undef, undef, undef, undef, undef, undef, undef, undef, undef, undef], defers := [] })
      (fun x a' _ A C hs ht => by obtain ⟨Bx, h1, h3, h2⟩ := hs; exact ⟨Bx, ht.same _ _ h1 not_TnI_stand, h3, h2⟩) ?assign ?body ?done ?stop
    case assign =>
      rintro l2 pre x Wc K hi hp hK
      have hsz : y + 1 ≤ Wc.heap.size := by have := some_lt hi.1.2; omega
      have HHI : Hid _ := hi
      clear hi
      obtain ⟨k, ⟨⟨hd, wt, lf, rt⟩, rk, up⟩⟩ := x
      dsimp only [encS, svl]
      gi_wp2
      exact hK _ _ ((KeepsT.refl _ _ _).alloc _) (HI _ _ _ HHI.out ((Turn.refl _ _ _).alloc (by rw [hs1]; exact hsz) _)) ⟨Wc.heap.size, heap_newW _ _, hsz, rfl⟩
    case body =>
      rintro l2 pre x a' Wc hl2 hi ⟨Bx, bX, hBx, rfl⟩ hp
      obtain ⟨aa, s, rfl, rfl, hpp⟩ := numd_prefix hp
      have hget : (stds h)[aa.length]? = some s := by
        obtain ⟨t, ht⟩ := hpp
        rw [← ht]
        simp
      have hsok := HSO.out s (List.mem_of_getElem? hget)
      have HHI : Hid _ := hi
      have HGT : Hid ((stds h)[aa.length]? = some s) := hget
      have q1 := hi.1.1.bi.cell
      have BX : Hid (Wc.heap[Bx]? = some (.cells (sixC s) 73)) := bX
      obtain ⟨g3, g4, g5, g6, g7, g8⟩ := six_of bX
      have y1 := hi.1.1.b1.cell
      have y2 := hi.1.1.b2.cell
      have y3 := hi.1.1.b3.cell
      have f1 := hi.1.1.b1.frozen
      have f2 := hi.1.1.b2.frozen
      have f3 := hi.1.1.b3.frozen
      have ht9 : s.tail < 4294967296 := by unfold Sd.tail; split; exact hsok.2; exact hsok.1.1
      have hh9 : s.head < 4294967296 := by unfold Sd.head; split; exact hsok.1.1; exact hsok.2
      have v1 : IntKind.i64.wrap (s.tail : Int) = (s.tail : Int) := by rw [IntKind.wrap_i64]; omega
      have v2 : IntKind.i64.wrap (s.head : Int) = (s.head : Int) := by rw [IntKind.wrap_i64]; omega
      have hBs := some_lt bX
      have n1 : z + 1 + 1 < Wc.heap.size := by omega
      have n2 : z + 1 + 1 + 1 < Wc.heap.size := by omega
      have n3 : z + 1 + 1 + 1 + 1 < Wc.heap.size := by omega
      clear hi bX hsok hget hpp hp
      dsimp only [svl]
      obtain ⟨k, hk⟩ : ∃ k, aa.length = k := ⟨_, rfl⟩
      have HKK : Hid (aa.length = k) := hk
      rw [hk]
      clear hk
      by_cases hki : (k : Int) = i
      · have d1 : ((k : Int) == i) = true := by simp [hki]
        have HKI : Hid ((k : Int) = i) := hki
        clear hki
        have HKC : Hid (∀ wx, Below Wc.heap.size Wc wx → (wx.cell? ⟨Bx, 0, none⟩ = some (.int .u32 (s.lk.hd : Int)) ∧ wx.cell? ⟨Bx, 1, none⟩ = some (.int .u64 (s.lk.wt : Int)) ∧ wx.cell? ⟨Bx, 2, none⟩ = some (.int .u32 (s.lk.lf : Int)) ∧ wx.cell? ⟨Bx, 3, none⟩ = some (.int .u32 (s.lk.rt : Int)) ∧ wx.cell? ⟨Bx, 4, none⟩ = some (.int .u32 (s.rk : Int)) ∧ wx.cell? ⟨Bx, 5, none⟩ = some (.bool s.up)) ∧ (wx.cell? ⟨z + 1 + 1, 0, none⟩ = some (.int .i64 0) ∧ wx.cell? ⟨z + 1 + 1 + 1, 0, none⟩ = some (.int .i64 0) ∧ wx.cell? ⟨z + 1 + 1 + 1 + 1, 0, none⟩ = some .nilIface) ∧ wx.frozen? ⟨z + 1 + 1, 0, none⟩ = false ∧ wx.frozen? ⟨z + 1 + 1 + 1, 0, none⟩ = false ∧ wx.frozen? ⟨z + 1 + 1 + 1 + 1, 0, none⟩ = false) := fun wx hx => ⟨⟨(hx.cell (p := ⟨Bx, 0, none⟩) hBs).trans g3, (hx.cell (p := ⟨Bx, 1, none⟩) hBs).trans g4, (hx.cell (p := ⟨Bx, 2, none⟩) hBs).trans g5, (hx.cell (p := ⟨Bx, 3, none⟩) hBs).trans g6, (hx.cell (p := ⟨Bx, 4, none⟩) hBs).trans g7, (hx.cell (p := ⟨Bx, 5, none⟩) hBs).trans g8⟩, ⟨(hx.cell (p := ⟨z + 1 + 1, 0, none⟩) n1).trans y1, (hx.cell (p := ⟨z + 1 + 1 + 1, 0, none⟩) n2).trans y2, (hx.cell (p := ⟨z + 1 + 1 + 1 + 1, 0, none⟩) n3).trans y3⟩, (hx.frozen (p := ⟨z + 1 + 1, 0, none⟩) n1).trans f1, (hx.frozen (p := ⟨z + 1 + 1 + 1, 0, none⟩) n2).trans f2, (hx.frozen (p := ⟨z + 1 + 1 + 1 + 1, 0, none⟩) n3).trans f3⟩
        have HT1 : Hid (∀ m wx, Below Wc.heap.size Wc wx → CallsIn (Fence.wide.inRound l2) m Try.prog 28 #[.agg #[.int .u32 (s.lk.hd : Int), .int .u64 (s.lk.wt : Int), .int .u32 (s.lk.lf : Int), .int .u32 (s.lk.rt : Int), .int .u32 (s.rk : Int), .bool s.up]] wx fun e w' => e = .returned (.int .u32 (s.tail : Int)) ∧ Below Wc.heap.size Wc w') := fun m wx hx => CallsIn.inRound l2 (callsIn_wide.2 ((tail_calls s wx).mono fun e w' ⟨q1, q2⟩ => ⟨q1, hx.trans (q2.mono hx.size)⟩))
        have HT2 : Hid (∀ m wx, Below Wc.heap.size Wc wx → CallsIn (Fence.wide.inRound l2) m Try.prog 29 #[.agg #[.int .u32 (s.lk.hd : Int), .int .u64 (s.lk.wt : Int), .int .u32 (s.lk.lf : Int), .int .u32 (s.lk.rt : Int), .int .u32 (s.rk : Int), .bool s.up]] wx fun e w' => e = .returned (.int .u32 (s.head : Int)) ∧ Below Wc.heap.size Wc w') := fun m wx hx => CallsIn.inRound l2 (callsIn_wide.2 ((head_calls s wx).mono fun e w' ⟨q1, q2⟩ => ⟨q1, hx.trans (q2.mono hx.size)⟩))
        have HFI : Hid (∀ wh, Below Wc.heap.size Wc wh → KeepsT TnI W2.heap.size Wc (((wh.setCell ⟨z + 1 + 1, 0, none⟩ (.int .i64 (s.tail : Int))).setCell ⟨z + 1 + 1 + 1, 0, none⟩ (.int .i64 (s.head : Int))).setCell ⟨z + 1 + 1 + 1 + 1, 0, none⟩ .nilIface) ∧ ∃ (k : Nat) (q : Sd), (k : Int) = i ∧ (stds h)[k]? = some q ∧ ENI w v h z i (.int .i64 (q.tail : Int)) (.int .i64 (q.head : Int)) .nilIface (((wh.setCell ⟨z + 1 + 1, 0, none⟩ (.int .i64 (s.tail : Int))).setCell ⟨z + 1 + 1 + 1, 0, none⟩ (.int .i64 (s.head : Int))).setCell ⟨z + 1 + 1 + 1 + 1, 0, none⟩ .nilIface)) := fun wh hb => ⟨keeps_set3 (keepsT_below hb) (by rw [hs1]; omega) _ _ _, k, s, HKI.out, by rw [← HKK.out]; exact HGT.out, (HHI.out.1.1.below hb n3).set3 _ _ _⟩
        have hmix : Try.prog.follows .mixedOrders = true := by kernel_rfl
        gi_wp2
        gi_region_with_o (first | (refine ⟨trivial, ?_⟩; (with_reducible refine (HT1.out _ _ (by first | (with_reducible exact (Below.refl _ _).drew) | (with_reducible assumption))).mono ?_); rintro e wt ⟨rfl, hbt⟩; obtain ⟨⟨t0, t1, t2, t3, t4, t5⟩, ⟨t6, t7, t8⟩, t9, ta, tb⟩ := HKC.out wt hbt) | (refine ⟨trivial, ?_⟩; (with_reducible refine (HT2.out _ _ (by first | (with_reducible exact (Below.refl _ _).drew) | (with_reducible assumption))).mono ?_); rintro e wh ⟨rfl, hbh⟩; obtain ⟨⟨u0, u1, u2, u3, u4, u5⟩, ⟨u6, u7, u8⟩, u9, ua, ub⟩ := HKC.out wh hbh))
        all_goals
          gi_wp2
          exact HFI.out wh hbh
      · have d1 : ((k : Int) == i) = false := by simp [hki]
        have HN : Hid (∀ j, j < (numd 0 aa ++ [(k, s)]).length → (j : Int) ≠ i) := fun j hj => by
          rw [List.length_append, numd_len] at hj
          simp at hj
          rcases Nat.lt_or_eq_of_le (Nat.le_of_lt_succ hj) with h1 | h1
          · exact HHI.out.2 j (by rw [numd_len]; exact h1)
          · rw [h1, HKK.out]; exact hki
        clear hki
        gi_wp2
        exact ⟨KeepsT.refl _ _ _, HHI.out.1, HN.out⟩
    case done =>
      rintro D Wd hD ⟨⟨hi, _⟩, hno⟩ hK
      rw [hs1] at hD
      have c1 := hi.b1.cell
      have c2 := hi.b2.cell
      have c3 := hi.b3.cell
      have f1 := hi.b1.frozen
      have f2 := hi.b2.frozen
      have f3 := hi.b3.frozen
      have HFN : Hid (ENI w v h z i (.int .i64 0) (.int .i64 0) (.iface 85 (.int .i64 1)) ((((Wd.setCell ⟨z + 1 + 1, 0, none⟩ (.int .i64 0)).setCell ⟨z + 1 + 1 + 1, 0, none⟩ (.int .i64 0)).setCell ⟨z + 1 + 1 + 1 + 1, 0, none⟩ (.iface 85 (.int .i64 1))).putObj D (.deferred none)) ∧ (((Wd.setCell ⟨z + 1 + 1, 0, none⟩ (.int .i64 0)).setCell ⟨z + 1 + 1 + 1, 0, none⟩ (.int .i64 0)).setCell ⟨z + 1 + 1 + 1 + 1, 0, none⟩ (.iface 85 (.int .i64 1))).heap[D]? = some (.deferred (some []))) := by
        have hDk : (((Wd.setCell ⟨z + 1 + 1, 0, none⟩ (.int .i64 0)).setCell ⟨z + 1 + 1 + 1, 0, none⟩ (.int .i64 0)).setCell ⟨z + 1 + 1 + 1 + 1, 0, none⟩ (.iface 85 (.int .i64 1))).heap[D]? = some (.deferred (some [])) := ((Below.heap_setCell _ _ _ _ (by show D ≠ z + 1 + 1 + 1 + 1; omega)).trans ((Below.heap_setCell _ _ _ _ (by show D ≠ z + 1 + 1 + 1; omega)).trans (Below.heap_setCell _ _ _ _ (by show D ≠ z + 1 + 1; omega)))).trans hK
        exact ⟨(hi.set3 _ _ _).below (((Turn.refl TnC D _).putObj (Nat.le_refl _) hDk rfl _).below) (by omega), hDk⟩
      have HEE : Hid (endsE h i = (0, 0, (1, []))) := by
        show _ = _
        unfold endsE
        rw [if_neg]
        rintro ⟨h1, h2⟩
        exact hno i.toNat (by rw [numd_len]; omega) (by omega)
      clear hi hno hK
      go_wp2
      refine ⟨fun ch e => (by cases e), by simp, .inl ⟨_, _, rfl, run_takeDeferred HFN.out.2, ?_⟩⟩
      refine ⟨_, ends_res HFN.out.1.b1 HFN.out.1.b2 HFN.out.1.b3 rfl rfl rfl, 0, 0, _, rfl, by rw [HZ.out]; exact HFN.out.1.bl, Or.inr (Or.inl ⟨HC.out, HEE.out.symm, told_num _ (by decide)⟩)⟩
    case stop =>
      rintro D pre Wd hD hp ⟨k, s, hk, hs, hi⟩ hK
      rw [hs1] at hD
      have HFN : Hid (ENI w v h z i (.int .i64 (s.tail : Int)) (.int .i64 (s.head : Int)) .nilIface (Wd.putObj D (.deferred none)) ∧ Wd.heap[D]? = some (.deferred (some []))) := ⟨hi.below (((Turn.refl TnC D _).putObj (Nat.le_refl _) hK rfl _).below) (by omega), hK⟩
      have HEE : Hid (endsE h i = ((s.tail : Int), (s.head : Int), (0, []))) := by
        show _ = _
        have hlt : k < (stds h).length := (List.getElem?_eq_some_iff.1 hs).1
        unfold endsE
        rw [if_pos ⟨by omega, by omega⟩, show i.toNat = k by omega, sd_of hs]
      clear hi hK hs hp
      gi_wp2
      refine ⟨fun ch e => (by cases e), by simp, .inl ⟨_, _, rfl, run_takeDeferred HFN.out.2, ?_⟩⟩
      refine ⟨_, ends_res HFN.out.1.b1 HFN.out.1.b2 HFN.out.1.b3 rfl rfl rfl, _, _, _, rfl, by rw [HZ.out]; exact HFN.out.1.bl, Or.inl ⟨HC.out, HEE.out.symm, rfl⟩⟩
  · have HC : Hid (chk h ≠ (0, [])) := hck
    have HCK2 : Hid (Calls Try.prog 19 #[.agg #[.slice v.no h.node.length v.nc, .slice v.uo h.upF.length v.uc, .slice v.ul h.up.length v.ulc, .slice v.wo h.dnF.length v.wc, .slice v.dl h.dn.length v.dlc]] W0 fun e w' => ∃ t x, e = .returned (.iface t x) ∧ IsTold w' (chk h) (.iface t x) ∧ Below W0.heap.size W0 w') := HCK.out.mono fun e w' ⟨u, h1, h2, h3⟩ => by
      obtain ⟨t, x, e0, _⟩ := isTold_some h2 HC.out
      subst e0
      exact ⟨t, x, h1, h2, h3⟩
    clear HCK hck
    go_wp2_with (go_at_call 19; refine HCK2.out.mono ?_; rintro e w1 ⟨ut, ux, rfl, htu, hbu⟩; have HE1 : Hid (ENI w v h z i (.int .i64 0) (.int .i64 0) .nilIface w1 ∧ IsTold w1 (chk h) (.iface ut ux)) := ⟨HE0.out.below hbu (by omega), htu⟩; have y1 := HE1.out.1.b1.cell; have y2 := HE1.out.1.b2.cell; have y3 := HE1.out.1.b3.cell; have f1 := HE1.out.1.b1.frozen; have f2 := HE1.out.1.b2.frozen; have f3 := HE1.out.1.b3.frozen; clear htu hbu)
    have hfin := HE1.out.1.set3 (.int .i64 0) (.int .i64 0) (.iface ut ux)
    have hkk : Keeps w1 (((w1.setCell ⟨z + 1 + 1, 0, none⟩ (.int .i64 0)).setCell ⟨z + 1 + 1 + 1, 0, none⟩ (.int .i64 0)).setCell ⟨z + 1 + 1 + 1 + 1, 0, none⟩ (.iface ut ux)) := fun b c hb => by
      have e1 : b ≠ z + 1 + 1 := fun e => by subst e; rw [show w1.heap[z + 1 + 1]? = _ from HE1.out.1.b1] at hb; cases hb
      have e2 : b ≠ z + 1 + 1 + 1 := fun e => by subst e; rw [show w1.heap[z + 1 + 1 + 1]? = _ from HE1.out.1.b2] at hb; cases hb
      have e3 : b ≠ z + 1 + 1 + 1 + 1 := fun e => by subst e; rw [show w1.heap[z + 1 + 1 + 1 + 1]? = _ from HE1.out.1.b3] at hb; cases hb
      exact ((Below.heap_setCell _ _ _ _ e3).trans ((Below.heap_setCell _ _ _ _ e2).trans (Below.heap_setCell _ _ _ _ e1))).trans hb
    refine ⟨fun ch e => (by cases e), ?_⟩
    exact ⟨_, ends_res hfin.b1 hfin.b2 hfin.b3 rfl rfl rfl, 0, 0, _, rfl, by rw [HZ.out]; exact hfin.bl, Or.inr (Or.inr ⟨HC.out, rfl, rfl, HE1.out.2.keep hkk⟩)⟩
end Go.Proofs.Ytkehpmbnbknpfaa.Hi
