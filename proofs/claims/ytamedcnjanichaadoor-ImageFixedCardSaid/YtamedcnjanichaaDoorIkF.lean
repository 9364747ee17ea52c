/- the law ImageFixed. (Printed by genike.py.) -/
import Derived.Test.YtamedcnjanichaaDoorIkE
import Derived.Deep.RegionHeld3
namespace Go.Proofs.YtamedcnjanichaaDoor
open Go.RowKit Go.Extern Cr

attribute [local go_sem] Oper.semAt_some

theorem hasB_lenF {w : World} {B n qc : Nat} {qo : Option Addr} {q : List Nat} (h : w.ownsRow B 5 1 (.slice qo n qc) n (bv q)) (e : q.length = n) : HasB w (.slice qo n qc) q := by
  subst e
  exact hasB_own h

set_option maxRecDepth 100000 in
set_option maxHeartbeats 8000000 in
theorem imageFixed_calls (w : World) (hf : HasFours w) (hg : 1 < w.heap.size) (hty : HasType w) :
    Calls Tryd.prog 6 #[] w fun e w' => e = .returned (.bool true) ∧ Below w.heap.size w w' := by
  have HFR : Hid (∀ wx, Below w.heap.size w wx → HasFours wx ∧ 1 < wx.heap.size ∧ HasType wx) := fun wx hx => ⟨fours_keep hf hg hx, Nat.lt_of_lt_of_le hg hx.size, hty.keep hx hty.pos⟩
  have HAW : Hid (Calls Tryd.prog 7 #[] w fun e w' => e = .returned (.bool true) ∧ Below w.heap.size w w') := awake19_calls w hf hg
  have HEN : Hid (∀ wx r, Below w.heap.size w wx → Hi.HasH wx ⟨none, some ⟨r, 0, none⟩, none, some ⟨r + 1, 0, none⟩, none, 0, 1, 0, 1, 0⟩ Hi.noneH → Calls Tryd.prog 9 #[.agg #[.slice none 0 0, .slice (some ⟨r, 0, none⟩) 1 1, .slice none 0 0, .slice (some ⟨r + 1, 0, none⟩) 1 1, .slice none 0 0]] wx fun e w' => ∃ g mc, e = .returned (.tuple #[.slice (some ⟨g, 0, none⟩) 32 mc, .nilIface]) ∧ (HasB w' (.slice (some ⟨g, 0, none⟩) 32 mc) P0 ∧ 32 ≤ mc) ∧ Below wx.heap.size wx w') := fun wx r hx hh => by
    refine (encode_good ⟨none, some ⟨r, 0, none⟩, none, some ⟨r + 1, 0, none⟩, none, 0, 1, 0, 1, 0⟩ Hi.noneH wx hh ⟨fun _ => rfl, (fun e => by cases e), (fun e => by cases e)⟩ Hi.chkNone (HFR.out wx hx).1 (HFR.out wx hx).2.1).mono ?_
    rintro e w' ⟨mo, mc, rfl, ho, hb2⟩
    rw [imB_none] at ho ⊢
    obtain ⟨g, cap, e, _⟩ := bown_at ho (show 0 < P0.length by decide)
    injection e with e1 e2 e3
    subst e1 e3
    exact ⟨g, mc, rfl, ⟨hasB_own ho, (own_cap ho).1⟩, hb2⟩
  have HSZ : Hid (∀ wx r, Hi.HasH wx ⟨none, some ⟨r, 0, none⟩, none, some ⟨r + 1, 0, none⟩, none, 0, 1, 0, 1, 0⟩ Hi.noneH → Calls Tryd.prog 10 #[.agg #[.slice none 0 0, .slice (some ⟨r, 0, none⟩) 1 1, .slice none 0 0, .slice (some ⟨r + 1, 0, none⟩) 1 1, .slice none 0 0]] wx fun e w' => e = .returned (.tuple #[.int .i64 32, .nilIface]) ∧ Below wx.heap.size wx w') := fun wx r hh => size_good ⟨none, some ⟨r, 0, none⟩, none, some ⟨r + 1, 0, none⟩, none, 0, 1, 0, 1, 0⟩ Hi.noneH wx hh Hi.chkNone
  have HDT : Hid (∀ wx lo lc (l : List Nat) n (E : Int × List (Int × Int)), l.length = n → n ≤ lc → Bts l → n ≤ 1000 → fE l = E → E ≠ (0, []) → Below w.heap.size w wx → HasB wx (.slice lo n lc) l → Calls Tryd.prog 12 #[.slice lo n lc] wx fun e w' => ∃ T x, e = .returned (.tuple #[.agg #[.slice none 0 0, .slice none 0 0, .slice none 0 0, .slice none 0 0, .slice none 0 0], .iface T x]) ∧ IsTold w' E (.iface T x) ∧ Below wx.heap.size wx w') := fun wx lo lc l n E h1 h2 h3 h4 h5 h6 hx h7 => by
    subst h1 h5
    exact decode_thrown lo lc l wx h7 h2 h3 (by omega) (HFR.out wx hx).1 (HFR.out wx hx).2.1 (HFR.out wx hx).2.2 h6
  have HSE : Hid (∀ wx e1 (c p i : Int) g, HasType wx → IsTold wx (c, [(p, i)]) e1 → wx.heap[g]? = some (.cells #[.int .i64 p, .int .i64 i] 75) → Calls Tryd.prog 17 #[e1, .agg #[.int .i64 c, .slice (some ⟨g, 0, none⟩) 1 1]] wx fun r w' => r = .returned (.bool true) ∧ Below wx.heap.size wx w') := fun wx e1 c p i g ht h1 h2 => seen_told (c, [(p, i)]) e1 (some ⟨g, 0, none⟩) 1 wx h1 (Hi.pl_one h2) (show 1 ≤ maxLen by decide) ht
  have HSZ0 : Hid (∀ wx e1 (c : Int), HasType wx → IsTold wx (c, []) e1 → Calls Tryd.prog 17 #[e1, .agg #[.int .i64 c, .slice none 0 0]] wx fun r w' => r = .returned (.bool true) ∧ Below wx.heap.size wx w') := fun wx e1 c ht h1 => seen_told (c, []) e1 none 0 wx h1 (places_nilI _) (show 0 ≤ maxLen by decide) ht
  have HTW : Hid (∀ wx g mc, HasB wx (.slice (some ⟨g, 0, none⟩) 32 mc) P0 → Calls Tryd.prog 14 #[.slice (some ⟨g, 0, none⟩) 32 mc] wx fun e w' => ∃ h c, e = .returned (.slice (some ⟨h, 0, none⟩) 32 c) ∧ w'.ownsRow wx.heap.size 5 1 (.slice (some ⟨h, 0, none⟩) 32 c) 32 (bv P0) ∧ Below wx.heap.size wx w') := fun wx g mc h1 => by
    refine (kTwin_calls (some ⟨g, 0, none⟩) mc P0 wx h1 (by decide) (fun e => by cases e)).mono ?_
    rintro e w' ⟨mo, mc, rfl, ho, hb2⟩
    obtain ⟨h, cap, e, _⟩ := bown_at ho (show 0 < P0.length by decide)
    injection e with e1 e2 e3
    subst e1 e3
    exact ⟨h, mc, rfl, ho, hb2⟩
  have HKF : Hid (∀ wx g mc, HasB wx (.slice (some ⟨g, 0, none⟩) 32 mc) P0 → 32 ≤ mc → Calls Tryd.prog 20 #[.slice (some ⟨g, 0, none⟩) 32 mc] wx fun e w' => e = .returned (.bool true) ∧ Below wx.heap.size wx w') := fun wx g mc h1 h2 => by
    have q := kFits_calls (some ⟨g, 0, none⟩) mc P0 wx h1 bts_P0 (by decide) h2
    rw [fits_P0] at q
    exact q
  have HEB : Hid (∀ wx, Calls Tryd.prog 9 #[.agg #[.slice none 0 0, .slice none 0 0, .slice none 0 0, .slice none 0 0, .slice none 0 0]] wx fun e w' => ∃ T x, e = .returned (.tuple #[.slice none 0 0, .iface T x]) ∧ IsTold w' (14, []) (.iface T x) ∧ Below wx.heap.size wx w') := fun wx => by
    have q := encode_bad nilV Hi.emptyH wx (has_empty wx) (by decide) (by decide) (by decide) (by rw [Hi.chkEmpty]; decide)
    rw [Hi.chkEmpty] at q
    exact q
  have HSB : Hid (∀ wx, Calls Tryd.prog 10 #[.agg #[.slice none 0 0, .slice none 0 0, .slice none 0 0, .slice none 0 0, .slice none 0 0]] wx fun e w' => ∃ T x, e = .returned (.tuple #[.int .i64 0, .iface T x]) ∧ IsTold w' (14, []) (.iface T x) ∧ Below wx.heap.size wx w') := fun wx => by
    have q := size_bad nilV Hi.emptyH wx (has_empty wx) (by decide) (by decide) (by decide) (by rw [Hi.chkEmpty]; decide)
    rw [Hi.chkEmpty] at q
    exact q
  have HRW : Hid (∀ wx b, Hi.In5 wx b Hi.hA → Calls Tryd.prog 22 #[.agg #[.slice (some ⟨b, 0, none⟩) 3 3, .slice (some ⟨b + 1, 0, none⟩) 4 4, .slice (some ⟨b + 2, 0, none⟩) 2 2, .slice (some ⟨b + 3, 0, none⟩) 4 4, .slice (some ⟨b + 4, 0, none⟩) 1 1]] wx fun e w' => ∃ mo mc, e = .returned (.slice mo 128 mc) ∧ (HasB w' (.slice mo 128 mc) B1 ∧ 128 ≤ mc) ∧ Below wx.heap.size wx w') := fun wx b h1 => by
    have q := raw_calls (Hi.T3 b) Hi.hA wx (h1.has Hi.likeA) small_A
    rw [Hi.hvl3 Hi.likeA] at q
    refine q.mono ?_
    rintro e w' ⟨mo, mc, rfl, ho, hb2⟩
    have e9 : (imB Hi.hA).length = 128 := len_B1
    have h7 := hasB_own ho
    have h8 := (own_cap ho).1
    rw [e9] at h7 h8 ⊢
    exact ⟨mo, mc, rfl, ⟨h7, h8⟩, hb2⟩
  have HDC : Hid (∀ wx mo mc, Below w.heap.size w wx → HasB wx (.slice mo 128 mc) B1 → 128 ≤ mc → Calls Tryd.prog 12 #[.slice mo 128 mc] wx fun e w' => ∃ T x, e = .returned (.tuple #[.agg #[.slice none 0 0, .slice none 0 0, .slice none 0 0, .slice none 0 0, .slice none 0 0], .iface T x]) ∧ IsTold w' (8, [(4, 1)]) (.iface T x) ∧ Below wx.heap.size wx w') := fun wx mo mc hx h1 h2 => by
    have q := decode_chk mo mc B1 Hi.hA wx (by rw [len_B1]; exact h1) (by rw [len_B1]; exact h2) img_A (HFR.out wx hx).1 (HFR.out wx hx).2.1 Hi.likeA.on Hi.likeA.ou Hi.likeA.ol Hi.likeA.od Hi.likeA.om (by rw [Hi.chkA]; decide)
    rw [Hi.chkA, len_B1] at q
    exact q
  clear hf hg hty
  go_enter Tryd.func6, Tryd.ntmps6
  go_wp2_with fail
  refine HAW.out.mono ?_
  rintro e y1 ⟨rfl, hb⟩
  have Y1 : Hid (Below w.heap.size w y1) := hb
  clear hb
  obtain ⟨r, hr⟩ : ∃ r, y1.heap.size = r := ⟨_, rfl⟩
  have hbn := Hi.build_hnone r (r + 1)
  obtain ⟨Z, hZ⟩ : ∃ Z, ((y1.alloc (.cells #[.int .u32 0] 42)).alloc (.cells #[.int .u32 0] 42)).alloc (.cells #[.slice none 0 0, .slice (some ⟨r, 0, none⟩) 1 1, .slice none 0 0, .slice (some ⟨r + 1, 0, none⟩) 1 1, .slice none 0 0] 25) = Z := ⟨_, rfl⟩
  have HZ : Hid (((y1.alloc (.cells #[.int .u32 0] 42)).alloc (.cells #[.int .u32 0] 42)).alloc (.cells #[.slice none 0 0, .slice (some ⟨r, 0, none⟩) 1 1, .slice none 0 0, .slice (some ⟨r + 1, 0, none⟩) 1 1, .slice none 0 0] 25) = Z) := hZ
  have FZ : Hid (∀ wx, Below Z.heap.size Z wx → wx.heap[r + 2]? = some (.cells #[.slice none 0 0, .slice (some ⟨r, 0, none⟩) 1 1, .slice none 0 0, .slice (some ⟨r + 1, 0, none⟩) 1 1, .slice none 0 0] 25) ∧ Hi.HasH wx ⟨none, some ⟨r, 0, none⟩, none, some ⟨r + 1, 0, none⟩, none, 0, 1, 0, 1, 0⟩ Hi.noneH ∧ Below w.heap.size w wx) := fun wx hx => by
    have g0 : Z.heap[r]? = some (.cells #[.int .u32 0] 42) := by rw [← hZ, ← hr]; exact (Below.heap_alloc _ _ _ (by simp; omega)).trans ((Below.heap_alloc _ _ _ (by simp)).trans (heap_new _ _))
    have g1 : Z.heap[r + 1]? = some (.cells #[.int .u32 0] 42) := by
      have g := heap_new (y1.alloc (.cells #[.int .u32 0] 42)) (.cells #[.int .u32 0] 42)
      rw [World.size_alloc, hr] at g
      rw [← hZ]
      exact (Below.heap_alloc _ _ _ (by rw [World.size_alloc, World.size_alloc, hr]; omega)).trans g
    have g2 : Z.heap[r + 2]? = some (.cells #[.slice none 0 0, .slice (some ⟨r, 0, none⟩) 1 1, .slice none 0 0, .slice (some ⟨r + 1, 0, none⟩) 1 1, .slice none 0 0] 25) := by
      have g := heap_new ((y1.alloc (.cells #[.int .u32 0] 42)).alloc (.cells #[.int .u32 0] 42)) (.cells #[.slice none 0 0, .slice (some ⟨r, 0, none⟩) 1 1, .slice none 0 0, .slice (some ⟨r + 1, 0, none⟩) 1 1, .slice none 0 0] 25)
      rw [World.size_alloc, World.size_alloc, hZ, hr] at g
      exact g
    have g3 : Below y1.heap.size y1 Z := by rw [← hZ]; exact (((Below.refl _ _).alloc (Nat.le_refl _) _).alloc (by simp) _).alloc (by simp; omega) _
    exact ⟨(hx.block _ (w_lt_get g2)).trans g2, has_none ((hx.block _ (w_lt_get g0)).trans g0) ((hx.block _ (w_lt_get g1)).trans g1), btrI Y1.out (btrI g3 hx)⟩
  clear hZ
  go_upto_region 4 with fail
  rw [HZ.out]
  clear HZ hr hbn
  obtain ⟨c0, c1, c2, c3, c4⟩ := Hi.five_cells (FZ.out Z (Below.refl _ _)).1
  have l0 := w_lt_get (FZ.out Z (Below.refl _ _)).1
  go_wp2_with fail
  refine (HEN.out Z r (FZ.out Z (Below.refl _ _)).2.2 (FZ.out Z (Below.refl _ _)).2.1).mono ?_
  rintro e y2 ⟨g, mc, rfl, hp, hb⟩
  have Y2 : Hid (Below Z.heap.size Z y2 ∧ HasB y2 (.slice (some ⟨g, 0, none⟩) 32 mc) P0 ∧ 32 ≤ mc) := ⟨hb, hp⟩
  clear hb hp c0 c1 c2 c3 c4 l0
  obtain ⟨c0, c1, c2, c3, c4⟩ := Hi.five_cells (FZ.out y2 Y2.out.1).1
  have l0 := w_lt_get (FZ.out y2 Y2.out.1).1
  go_wp2_with fail
  refine (HSZ.out y2 r (FZ.out y2 Y2.out.1).2.1).mono ?_
  rintro e y3 ⟨rfl, hb⟩
  have Y3 : Hid (Below Z.heap.size Z y3 ∧ Below y2.heap.size y2 y3) := ⟨btrI Y2.out.1 hb, hb⟩
  clear hb c0 c1 c2 c3 c4 l0
  go_wp2_with fail
  refine (HDT.out y3 none 0 [] 0 (10, [(2, 0)]) rfl (Nat.le_refl _) (fun x hx => by cases hx) (by decide) fE_nil (by decide) (FZ.out y3 Y3.out.1).2.2 (hasB_nilI _)).mono ?_
  rintro e y4 ⟨T4, x4, rfl, ht, hb⟩
  have Y4 : Hid (Below y3.heap.size y3 y4 ∧ IsTold y4 (10, [(2, 0)]) (.iface T4 x4)) := ⟨hb, ht⟩
  clear hb ht
  obtain ⟨W4, hW4⟩ : ∃ W4, y4.alloc (.cells #[.slice none 0 0, .slice none 0 0, .slice none 0 0, .slice none 0 0, .slice none 0 0] 25) = W4 := ⟨_, rfl⟩
  have HW4 : Hid (y4.alloc (.cells #[.slice none 0 0, .slice none 0 0, .slice none 0 0, .slice none 0 0, .slice none 0 0] 25) = W4) := hW4
  have bW4 : Hid (Below y4.heap.size y4 W4) := by rw [← hW4]; exact (Below.refl _ _).alloc (Nat.le_refl _) _
  clear hW4
  go_upto_region 7 with fail
  rw [HW4.out]
  have hmk := make_32
  go_wp2_with fail
  refine (HDT.out _ (some ⟨W4.heap.size, 0, none⟩) 32 (List.replicate 32 0) 32 (11, [(2, 0)]) rfl (Nat.le_refl _) (fun x hx => by rw [List.eq_of_mem_replicate hx]; decide) (by decide) fE_zero (by decide) (btrI (FZ.out y3 Y3.out.1).2.2 (btrI Y4.out.1 (btrI bW4.out ((Below.refl _ W4).alloc (Nat.le_refl _) _)))) (hasB_row (l := List.replicate 32 0) (by exact heap_new _ _) rfl 32)).mono ?_
  rintro e y5 ⟨T5, x5, rfl, ht, hb⟩
  have Y5 : Hid (Below y4.heap.size y4 y5 ∧ IsTold y5 (11, [(2, 0)]) (.iface T5 x5)) := ⟨btrI bW4.out (btrI ((Below.refl _ W4).alloc (Nat.le_refl _) _) hb), ht⟩
  clear hb ht hmk
  obtain ⟨W6, hW6⟩ : ∃ W6, y5.alloc (.cells #[.slice none 0 0, .slice none 0 0, .slice none 0 0, .slice none 0 0, .slice none 0 0] 25) = W6 := ⟨_, rfl⟩
  have HW6 : Hid (y5.alloc (.cells #[.slice none 0 0, .slice none 0 0, .slice none 0 0, .slice none 0 0, .slice none 0 0] 25) = W6) := hW6
  have bW6 : Hid (Below y5.heap.size y5 W6) := by rw [← hW6]; exact (Below.refl _ _).alloc (Nat.le_refl _) _
  clear hW6
  go_upto_region 8 with fail
  rw [HW6.out]
  have HT : Hid (∀ wx, Below W6.heap.size W6 wx → IsTold wx (10, [(2, 0)]) (.iface T4 x4) ∧ IsTold wx (11, [(2, 0)]) (.iface T5 x5) ∧ HasB wx (.slice (some ⟨g, 0, none⟩) 32 mc) P0 ∧ Below w.heap.size w wx) := fun wx hx => by
    have q5 : Below y5.heap.size y5 wx := btrI bW6.out hx
    have q4 : Below y4.heap.size y4 wx := btrI Y5.out.1 q5
    have q3 : Below y3.heap.size y3 wx := btrI Y4.out.1 q4
    exact ⟨Y4.out.2.keep (Below.keeps q4), Y5.out.2.keep (Below.keeps q5), Y2.out.2.1.keep (btrI Y3.out.2 q3), btrI (FZ.out y3 Y3.out.1).2.2 q3⟩
  have hsl : ∀ wx, (Instr.slice 26 (.slice (some ⟨g, 0, none⟩) 32 mc) none (some (.int .i64 20)) none).run Tryd.prog wx = .ok (.slice (some ⟨g, 0, none⟩) 20 mc) wx := fun wx => slice_uptoB g 0 32 mc 20 Y2.out.2.2 (by decide) wx
  have HKS : Hid (Calls Tryd.prog 15 #[.slice (some ⟨g, 0, none⟩) 20 mc, .slice (some ⟨W6.heap.size, 0, none⟩) 20 20] (W6.alloc (.cells #[.int .u8 86, .int .u8 68, .int .u8 67, .int .u8 84, .int .u8 1, .int .u8 0, .int .u8 0, .int .u8 0, .int .u8 0, .int .u8 0, .int .u8 0, .int .u8 0, .int .u8 0, .int .u8 0, .int .u8 0, .int .u8 0, .int .u8 0, .int .u8 0, .int .u8 0, .int .u8 0] 5)) fun e w' => e = .returned (.bool true) ∧ Below W6.heap.size W6 w') := by
    have q0 : Below W6.heap.size W6 (W6.alloc (.cells #[.int .u8 86, .int .u8 68, .int .u8 67, .int .u8 84, .int .u8 1, .int .u8 0, .int .u8 0, .int .u8 0, .int .u8 0, .int .u8 0, .int .u8 0, .int .u8 0, .int .u8 0, .int .u8 0, .int .u8 0, .int .u8 0, .int .u8 0, .int .u8 0, .int .u8 0, .int .u8 0] 5)) := (Below.refl _ _).alloc (Nat.le_refl _) _
    refine (kSame_calls (some ⟨g, 0, none⟩) (some ⟨W6.heap.size, 0, none⟩) mc 20 (P0.take 20) _ (hasB_take (HT.out _ q0).2.2.1 20) (hasB_row (l := P0.take 20) (by exact heap_new _ _) rfl 20)).mono ?_
    rintro e w' ⟨rfl, hz⟩
    rw [hz]
    exact ⟨rfl, q0⟩
  have HMC : Hid (32 ≤ mc) := Y2.out.2.2
  clear FZ Y1 Y2 Y3 Y4 Y5
  go_wp2_with fail
  refine HKS.out.mono ?_
  rintro e y6 ⟨rfl, hb⟩
  have Y6 : Hid (Below W6.heap.size W6 y6) := hb
  clear hb hsl
  go_wp2_with fail
  refine (HKF.out y6 g mc (HT.out y6 Y6.out).2.2.1 HMC.out).mono ?_
  rintro e y7 ⟨rfl, hb⟩
  have Y7 : Hid (Below W6.heap.size W6 y7) := btrI Y6.out hb
  clear hb
  go_wp2_with fail
  refine (E_calls 10 y7).mono ?_
  rintro e e1 ⟨rfl, hb⟩
  have E1 : Hid (Below W6.heap.size W6 e1) := btrI Y7.out hb
  clear hb
  go_wp2_with fail
  refine (refAt_calls 2 0 10 e1).mono ?_
  rintro e f1 ⟨g1, rfl, hg1, hb⟩
  have F1 : Hid (Below W6.heap.size W6 f1 ∧ f1.heap[g1]? = some (.cells #[.int .i64 2, .int .i64 0] 75)) := ⟨btrI E1.out hb, hg1⟩
  clear hb hg1
  go_wp2_with fail
  refine (HSE.out f1 (.iface T4 x4) 10 2 0 g1 (HFR.out f1 ((fun wx hx => (HT.out wx hx).2.2.2) f1 F1.out.1)).2.2 ((fun wx hx => (HT.out wx hx).1) f1 F1.out.1) F1.out.2).mono ?_
  rintro e s1 ⟨rfl, hb⟩
  have S1 : Hid (Below W6.heap.size W6 s1) := btrI F1.out.1 hb
  clear hb
  go_wp2_with fail
  refine (E_calls 11 s1).mono ?_
  rintro e e2 ⟨rfl, hb⟩
  have E2 : Hid (Below W6.heap.size W6 e2) := btrI S1.out hb
  clear hb
  go_wp2_with fail
  refine (refAt_calls 2 0 11 e2).mono ?_
  rintro e f2 ⟨g2, rfl, hg2, hb⟩
  have F2 : Hid (Below W6.heap.size W6 f2 ∧ f2.heap[g2]? = some (.cells #[.int .i64 2, .int .i64 0] 75)) := ⟨btrI E2.out hb, hg2⟩
  clear hb hg2
  go_wp2_with fail
  refine (HSE.out f2 (.iface T5 x5) 11 2 0 g2 (HFR.out f2 ((fun wx hx => (HT.out wx hx).2.2.2) f2 F2.out.1)).2.2 ((fun wx hx => (HT.out wx hx).2.1) f2 F2.out.1) F2.out.2).mono ?_
  rintro e s2 ⟨rfl, hb⟩
  have S2 : Hid (Below W6.heap.size W6 s2) := btrI F2.out.1 hb
  clear hb
  have HPC : ∀ wx, Below W6.heap.size W6 wx → wx.cell? ⟨g, 31, none⟩ = some (.int .u8 159) ∧ g < wx.heap.size := fun wx hx => by
    obtain ⟨b, off, e, hlt, hc⟩ := (HT.out wx hx).2.2.1.at (show P0[31]? = some 159 from rfl)
    injection e with e
    injection e with e1 e2
    subst e1 e2
    rw [Nat.zero_add] at hc
    exact ⟨hc, hlt⟩
  obtain ⟨q, hq⟩ : ∃ q, s2.heap.size = q := ⟨_, rfl⟩
  obtain ⟨W7, hW7⟩ : ∃ W7, s2.alloc (.cells #[.int .i64 4, .int .i64 8, .int .i64 10, .int .i64 11, .int .i64 14, .int .i64 15, .int .i64 18, .int .i64 19, .int .i64 31, .int .i64 2, .int .i64 20] 3) = W7 := ⟨_, rfl⟩
  have HW7 : Hid (s2.alloc (.cells #[.int .i64 4, .int .i64 8, .int .i64 10, .int .i64 11, .int .i64 14, .int .i64 15, .int .i64 18, .int .i64 19, .int .i64 31, .int .i64 2, .int .i64 20] 3) = W7) := hW7
  obtain ⟨W8, hW8⟩ : ∃ W8, ((W7.alloc (.cells #[.int .u8 2, .int .u8 1, .int .u8 1, .int .u8 1, .int .u8 16, .int .u8 1, .int .u8 17, .int .u8 1, .int .u8 158, .int .u8 0, .int .u8 1] 5)).alloc (.cells #[.int .i64 4, .int .i64 32, .int .i64 32, .int .i64 8, .int .i64 32, .int .i64 12, .int .i64 16, .int .i64 16, .int .i64 28, .int .i64 2, .int .i64 28] 3)).alloc (.cells #[.int .i64 12, .int .i64 10, .int .i64 10, .int .i64 9, .int .i64 10, .int .i64 9, .int .i64 9, .int .i64 9, .int .i64 13, .int .i64 11, .int .i64 13] 53) = W8 := ⟨_, rfl⟩
  have HW8 : Hid (((W7.alloc (.cells #[.int .u8 2, .int .u8 1, .int .u8 1, .int .u8 1, .int .u8 16, .int .u8 1, .int .u8 17, .int .u8 1, .int .u8 158, .int .u8 0, .int .u8 1] 5)).alloc (.cells #[.int .i64 4, .int .i64 32, .int .i64 32, .int .i64 8, .int .i64 32, .int .i64 12, .int .i64 16, .int .i64 16, .int .i64 28, .int .i64 2, .int .i64 28] 3)).alloc (.cells #[.int .i64 12, .int .i64 10, .int .i64 10, .int .i64 9, .int .i64 10, .int .i64 9, .int .i64 9, .int .i64 9, .int .i64 13, .int .i64 11, .int .i64 13] 53) = W8) := hW8
  have hq7 : W7.heap.size = q + 1 := by rw [← hW7, World.size_alloc, hq]
  have HX8 : Hid (∀ wx, Below W8.heap.size W8 wx → (wx.heap[q]? = some (.cells ((pls.map fun x : Nat => Value.int .i64 (x : Int)).toArray) 3) ∧ wx.heap[q + 1]? = some (.cells ((vls.map fun x : Nat => Value.int .u8 (x : Int)).toArray) 5) ∧ wx.heap[q + 2]? = some (.cells ((wts.map fun x : Nat => Value.int .i64 (x : Int)).toArray) 3) ∧ wx.heap[q + 3]? = some (.cells ((cds.map fun x : Nat => Value.int .i64 (x : Int)).toArray) 53)) ∧ Below W6.heap.size W6 wx) := fun wx hx => by
    have hl := Hi.lays_get [.cells #[.int .i64 4, .int .i64 8, .int .i64 10, .int .i64 11, .int .i64 14, .int .i64 15, .int .i64 18, .int .i64 19, .int .i64 31, .int .i64 2, .int .i64 20] 3, .cells #[.int .u8 2, .int .u8 1, .int .u8 1, .int .u8 1, .int .u8 16, .int .u8 1, .int .u8 17, .int .u8 1, .int .u8 158, .int .u8 0, .int .u8 1] 5, .cells #[.int .i64 4, .int .i64 32, .int .i64 32, .int .i64 8, .int .i64 32, .int .i64 12, .int .i64 16, .int .i64 16, .int .i64 28, .int .i64 2, .int .i64 28] 3, .cells #[.int .i64 12, .int .i64 10, .int .i64 10, .int .i64 9, .int .i64 10, .int .i64 9, .int .i64 9, .int .i64 9, .int .i64 13, .int .i64 11, .int .i64 13] 53] s2
    have hb := Hi.lays_below [.cells #[.int .i64 4, .int .i64 8, .int .i64 10, .int .i64 11, .int .i64 14, .int .i64 15, .int .i64 18, .int .i64 19, .int .i64 31, .int .i64 2, .int .i64 20] 3, .cells #[.int .u8 2, .int .u8 1, .int .u8 1, .int .u8 1, .int .u8 16, .int .u8 1, .int .u8 17, .int .u8 1, .int .u8 158, .int .u8 0, .int .u8 1] 5, .cells #[.int .i64 4, .int .i64 32, .int .i64 32, .int .i64 8, .int .i64 32, .int .i64 12, .int .i64 16, .int .i64 16, .int .i64 28, .int .i64 2, .int .i64 28] 3, .cells #[.int .i64 12, .int .i64 10, .int .i64 10, .int .i64 9, .int .i64 10, .int .i64 9, .int .i64 9, .int .i64 9, .int .i64 13, .int .i64 11, .int .i64 13] 53] s2
    have e8 : Hi.lays s2 [.cells #[.int .i64 4, .int .i64 8, .int .i64 10, .int .i64 11, .int .i64 14, .int .i64 15, .int .i64 18, .int .i64 19, .int .i64 31, .int .i64 2, .int .i64 20] 3, .cells #[.int .u8 2, .int .u8 1, .int .u8 1, .int .u8 1, .int .u8 16, .int .u8 1, .int .u8 17, .int .u8 1, .int .u8 158, .int .u8 0, .int .u8 1] 5, .cells #[.int .i64 4, .int .i64 32, .int .i64 32, .int .i64 8, .int .i64 32, .int .i64 12, .int .i64 16, .int .i64 16, .int .i64 28, .int .i64 2, .int .i64 28] 3, .cells #[.int .i64 12, .int .i64 10, .int .i64 10, .int .i64 9, .int .i64 10, .int .i64 9, .int .i64 9, .int .i64 9, .int .i64 13, .int .i64 11, .int .i64 13] 53] = W8 := by rw [← hW8, ← hW7]; rfl
    rw [e8] at hl hb
    rw [hq] at hl
    have g0 := hl 0 _ rfl
    have g1 := hl 1 _ rfl
    have g2 := hl 2 _ rfl
    have g3 := hl 3 _ rfl
    exact ⟨⟨(hx.block _ (w_lt_get g0)).trans g0, (hx.block _ (w_lt_get g1)).trans g1, (hx.block _ (w_lt_get g2)).trans g2, (hx.block _ (w_lt_get g3)).trans g3⟩, btrI S2.out (btrI hb hx)⟩
  obtain ⟨cp, lp⟩ := HPC W7 (by rw [← hW7]; exact S2.out.alloc S2.out.size _)
  have hxr : bits .xor .u8 159 1 = 158 := by kernel_rfl
  clear hW8 hW7
  go_upto_region 11 with fail
  rw [HW7.out]
  go_upto_region 14 with fail
  rw [HW8.out]
  clear HW7 HW8 hq hq7 cp lp hxr
  go_wp2_with fail
  go_loopw [96] (fun kv wr => ∃ k : Nat, k ≤ 11 ∧ kv = .int .i64 (k : Int) ∧ Below W8.heap.size W8 wr) (fun kv _ => 11 - (intOf kv).toNat)
  case atStart => exact ⟨0, by omega, rfl, Below.refl _ _⟩
  case round =>
    obtain ⟨k, hk, rfl, hB⟩ := hrel
    have HB : Hid (Below W8.heap.size W8 wr) := hB
    clear hB
    by_cases hlt : k < 11
    · have HFE : Hid (fE (P0.set (pls.getD k 0) (vls.getD k 0)) = (((cds.getD k 0 : Nat) : Int), [(2, ((wts.getD k 0 : Nat) : Int))])) := rows_fE k hlt
      obtain ⟨hA, hV, hC⟩ := rows_ok k hlt
      have HBT : Hid (Bts (P0.set (pls.getD k 0) (vls.getD k 0))) := bts_set0 hlt
      have HCE : Hid (∀ wx, Below W8.heap.size W8 wx → wx.cell? ⟨q, k, none⟩ = some (.int .i64 ((pls.getD k 0 : Nat) : Int)) ∧ wx.cell? ⟨q + 1, k, none⟩ = some (.int .u8 ((vls.getD k 0 : Nat) : Int)) ∧ wx.cell? ⟨q + 2, k, none⟩ = some (.int .i64 ((wts.getD k 0 : Nat) : Int)) ∧ wx.cell? ⟨q + 3, k, none⟩ = some (.int .i64 ((cds.getD k 0 : Nat) : Int)) ∧ q + 3 < wx.heap.size) := fun wx hx => by
        obtain ⟨⟨g0, g1, g2, g3⟩, _⟩ := HX8.out wx hx
        exact ⟨row_at g0 hlt, row_at g1 hlt, row_at g2 hlt, row_at g3 hlt, w_lt_get g3⟩
      obtain ⟨x0, hx0⟩ : ∃ x0, P0[pls.getD k 0]? = some x0 := ⟨_, List.getElem?_eq_getElem (show pls.getD k 0 < P0.length from hA)⟩
      generalize pls.getD k 0 = A at *
      generalize vls.getD k 0 = VL at *
      generalize wts.getD k 0 = WT at *
      generalize cds.getD k 0 = CD at *
      have HX0 : Hid (P0[A]? = some x0) := hx0
      have HCD : Hid (CD ≠ 0) := hC
      clear hx0 hC
      obtain ⟨t0, t1, t2, t3, tl⟩ := HCE.out wr HB.out
      have i1 : decide ((k : Int) < 11) = true := decide_eq_true (by omega)
      have i2 : decide (k < 11) = true := decide_eq_true hlt
      have iA : (0 : Int) ≤ (A : Int) ∧ (A : Int) < 32 := by omega
      go_wp2_with fail
      refine (HTW.out wr g mc (HT.out wr (HX8.out wr HB.out).2).2.2.1).mono ?_
      rintro e z1 ⟨h1, cq, rfl, ho, hb⟩
      obtain ⟨h1', c1', e', hge, hlt1, hfz, hcell⟩ := bown_at ho (by decide)
      injection e' with e1 e2 e3
      injection e1 with e1
      injection e1 with e1
      subst e1 e3
      have Z1 : Hid (Below W8.heap.size W8 z1 ∧ z1.ownsRow wr.heap.size 5 1 (.slice (some ⟨h1, 0, none⟩) 32 cq) 32 (bv P0) ∧ wr.heap.size ≤ h1) := ⟨btrI HB.out hb, ho, hge⟩
      have cA := hcell _ _ HX0.out
      have fA := hfz A
      clear ho hb hge hcell hfz t0 t1 t2 t3 tl
      obtain ⟨t0, t1, t2, t3, tl⟩ := HCE.out z1 Z1.out.1
      obtain ⟨Z2, hZ2⟩ : ∃ Z2, z1.setCell ⟨h1, A, none⟩ (.int .u8 (VL : Int)) = Z2 := ⟨_, rfl⟩
      have HZ2 : Hid (z1.setCell ⟨h1, A, none⟩ (.int .u8 (VL : Int)) = Z2) := hZ2
      have Y2 : Hid (Below W8.heap.size W8 Z2 ∧ HasB Z2 (.slice (some ⟨h1, 0, none⟩) 32 cq) (P0.set A VL) ∧ 32 ≤ cq) := by
        rw [← hZ2]
        exact ⟨below_set Z1.out.1 (Nat.le_trans HB.out.size Z1.out.2.2) _ _, hasB_lenF (bown_set Z1.out.2.1 VL) (by rw [List.length_set]; rfl), (own_cap Z1.out.2.1).1⟩
      clear hZ2
      go_upto_region 19 with fail
      rw [HZ2.out]
      clear cA fA hlt1 t0 t1 t2 t3 tl
      go_wp2_with fail
      refine (HDT.out Z2 (some ⟨h1, 0, none⟩) cq (P0.set A VL) 32 ((CD : Int), [(2, (WT : Int))]) (by rw [List.length_set]; rfl) Y2.out.2.2 HBT.out (by decide) HFE.out (by simp) (HT.out Z2 (HX8.out Z2 Y2.out.1).2).2.2.2 Y2.out.2.1).mono ?_
      rintro e z3 ⟨T3, x3, rfl, ht, hb⟩
      have Y3 : Hid (Below W8.heap.size W8 z3 ∧ IsTold z3 ((CD : Int), [(2, (WT : Int))]) (.iface T3 x3)) := ⟨btrI Y2.out.1 hb, ht⟩
      clear hb ht
      obtain ⟨Z4, hZ4⟩ : ∃ Z4, z3.alloc (.cells #[.slice none 0 0, .slice none 0 0, .slice none 0 0, .slice none 0 0, .slice none 0 0] 25) = Z4 := ⟨_, rfl⟩
      have HZ4 : Hid (z3.alloc (.cells #[.slice none 0 0, .slice none 0 0, .slice none 0 0, .slice none 0 0, .slice none 0 0] 25) = Z4) := hZ4
      have bZ4 : Hid (Below z3.heap.size z3 Z4) := by rw [← hZ4]; exact (Below.refl _ _).alloc (Nat.le_refl _) _
      clear hZ4
      go_upto_region 20 with fail
      rw [HZ4.out]
      have HZ : Hid (∀ wx, Below Z4.heap.size Z4 wx → Below W8.heap.size W8 wx ∧ IsTold wx ((CD : Int), [(2, (WT : Int))]) (.iface T3 x3) ∧ HasType wx) := fun wx hx => by
        have q3 : Below z3.heap.size z3 wx := btrI bZ4.out hx
        have q8 : Below W8.heap.size W8 wx := btrI Y3.out.1 q3
        exact ⟨q8, Y3.out.2.keep (Below.keeps q3), (HFR.out wx (HT.out wx (HX8.out wx q8).2).2.2.2).2.2⟩
      obtain ⟨_, _, t2, t3, tl⟩ := HCE.out Z4 (HZ.out Z4 (Below.refl _ _)).1
      have tok1 : Hid (1 = 1) := rfl
      have i3 : (0 : Int) ≤ (k : Int) ∧ (k : Int) < 11 := by omega
      go_region_held3 (fun w' => w'.cell? ⟨q + 2, k, none⟩ = some (.int .i64 (WT : Int)) ∧ w'.cell? ⟨q + 3, k, none⟩ = some (.int .i64 (CD : Int))) (go_keep) (first
        | (go_at_call 17; have gg := V2; clear gg; refine (HSE.out _ (.iface T3 x3) (CD : Int) 2 (WT : Int) g6 (HZ.out _ V2.out.1).2.2 (HZ.out _ V2.out.1).2.1 V2.out.2).mono ?_; rintro e v3 ⟨rfl, hb⟩; have V3 : Hid (Below Z4.heap.size Z4 v3) := btrI V2.out.1 hb; clear hb t2 t3 tl; obtain ⟨_, _, t2, t3, tl⟩ := HCE.out v3 (HZ.out v3 V3.out).1)
        | (go_at_call 18; have gg := V1; clear gg; refine (refAt_calls 2 (WT : Int) (CD : Int) _).mono ?_; rintro e v2 ⟨g6, rfl, hg6, hb⟩; have V2 : Hid (Below Z4.heap.size Z4 v2 ∧ v2.heap[g6]? = some (.cells #[.int .i64 2, .int .i64 (WT : Int)] 75)) := ⟨btrI V1.out hb, hg6⟩; clear hb hg6 t2 t3 tl; obtain ⟨_, _, t2, t3, tl⟩ := HCE.out v2 (HZ.out v2 V2.out.1).1)
        | (go_at_call 19; have gg := tok1; clear gg tok1; refine (E_calls (CD : Int) _).mono ?_; rintro e v1 ⟨rfl, hb⟩; have V1 : Hid (Below Z4.heap.size Z4 v1) := btrI (Below.refl _ Z4).drew hb; clear hb t2 t3 tl; obtain ⟨_, _, t2, t3, tl⟩ := HCE.out v1 (HZ.out v1 V1.out).1))
      go_wp2
      go_roundw
      case rel => exact ⟨k + 1, by omega, by go_num, (HZ.out v3 V3.out).1⟩
      case measure => simp [intOf]; omega
    · obtain rfl : k = 11 := by omega
      go_wp2_with fail
      refine (HTW.out wr g mc (HT.out wr (HX8.out wr HB.out).2).2.2.1).mono ?_
      rintro e z1 ⟨h1, cq, rfl, ho, hb⟩
      have Z1 : Hid (Below W8.heap.size W8 z1 ∧ z1.ownsRow wr.heap.size 5 1 (.slice (some ⟨h1, 0, none⟩) 32 cq) 32 (bv P0) ∧ wr.heap.size ≤ z1.heap.size) := ⟨btrI HB.out hb, ho, hb.size⟩
      clear ho hb
      go_wp2_with (at_builtin; refine wpList_append_B rfl _ _ rfl wr.heap.size (.slice (some ⟨h1, 0, none⟩) 32 cq) P0 rfl (bown_below Z1.out.2.1 ((Below.refl _ z1).alloc (Nat.le_refl _) _)) (some ⟨z1.heap.size, 0, none⟩) 1 [0] rfl (hasB_row (l := [0]) (by exact heap_new _ _) rfl 1) (fun e => by cases e) (by decide) (by have := Z1.out.2.2; simp; omega) ?_; intro v5 z2 hown5 hgr5; have Z2 : Hid (z2.ownsRow wr.heap.size 5 1 v5 33 (bv (P0 ++ [0])) ∧ Below W8.heap.size W8 z2) := ⟨hown5, Hi.below_grown (Z1.out.1.alloc Z1.out.1.size _) (row_low (bown_below Z1.out.2.1 ((Below.refl _ z1).alloc (Nat.le_refl _) _)) HB.out.size) hgr5 (by have := Z1.out.1.size; simp; omega)⟩; clear hown5 hgr5; obtain ⟨so, sc, hv5⟩ := Hi.own_slice Z2.out.1; subst hv5)
      refine (HDT.out z2 so sc (P0 ++ [0]) 33 (6, [(2, 32)]) rfl (own_cap Z2.out.1).1 (bts_P0.app (fun x hx => by simp at hx; omega)) (by decide) fE_more (by decide) (HT.out z2 (HX8.out z2 Z2.out.2).2).2.2.2 (hasB_lenF Z2.out.1 rfl)).mono ?_
      rintro e z3 ⟨T3, x3, rfl, ht, hb⟩
      have Z3 : Hid (Below W8.heap.size W8 z3 ∧ IsTold z3 (6, [(2, 32)]) (.iface T3 x3)) := ⟨btrI Z2.out.2 hb, ht⟩
      clear hb ht
      have hb0 := Hi.build_h0
      go_wp2_with fail
      refine (HEB.out z3).mono ?_
      rintro e z4 ⟨T6, x6, rfl, ht, hb⟩
      have Z4 : Hid (Below z3.heap.size z3 z4 ∧ IsTold z4 (14, []) (.iface T6 x6)) := ⟨hb, ht⟩
      clear hb ht
      go_wp2_with fail
      refine (HSB.out z4).mono ?_
      rintro e z5 ⟨T7, x7, rfl, ht, hb⟩
      have Z5 : Hid (Below z4.heap.size z4 z5 ∧ IsTold z5 (14, []) (.iface T7 x7)) := ⟨hb, ht⟩
      clear hb ht hb0
      go_wp2_with fail
      refine (Hi.three_own z5).mono ?_
      rintro e z6 ⟨b, rfl, hbl, h5, hb⟩
      have Z6 : Hid (Below z5.heap.size z5 z6 ∧ Hi.In5 z6 b Hi.three ∧ z5.heap.size ≤ b) := ⟨hb, h5, hbl⟩
      clear hb h5 hbl
      obtain ⟨bb, hbb⟩ : ∃ bb, z6.heap.size = bb := ⟨_, rfl⟩
      obtain ⟨W9, hW9⟩ : ∃ W9, z6.alloc (.cells #[.slice (some ⟨b, 0, none⟩) 3 3, .slice (some ⟨b + 1, 0, none⟩) 4 4, .slice (some ⟨b + 2, 0, none⟩) 2 2, .slice (some ⟨b + 3, 0, none⟩) 4 4, .slice (some ⟨b + 4, 0, none⟩) 1 1] 25) = W9 := ⟨_, rfl⟩
      have HW9 : Hid (z6.alloc (.cells #[.slice (some ⟨b, 0, none⟩) 3 3, .slice (some ⟨b + 1, 0, none⟩) 4 4, .slice (some ⟨b + 2, 0, none⟩) 2 2, .slice (some ⟨b + 3, 0, none⟩) 4 4, .slice (some ⟨b + 4, 0, none⟩) 1 1] 25) = W9 ∧ z6.heap.size = bb) := ⟨hW9, hbb⟩
      have b9 : Below z6.heap.size z6 W9 := by rw [← hW9]; exact (Below.refl _ _).alloc (Nat.le_refl _) _
      have n9 : W9.heap[bb]? = some (.cells #[.slice (some ⟨b, 0, none⟩) 3 3, .slice (some ⟨b + 1, 0, none⟩) 4 4, .slice (some ⟨b + 2, 0, none⟩) 2 2, .slice (some ⟨b + 3, 0, none⟩) 4 4, .slice (some ⟨b + 4, 0, none⟩) 1 1] 25) := by rw [← hW9, ← hbb]; exact heap_new _ _
      have HI9 : Hid (Hi.In5 W9 b Hi.three ∧ Below z5.heap.size z5 W9) := ⟨Z6.out.2.1.keep b9, btrI Z6.out.1 b9⟩
      have hne : b + 2 ≠ bb := by
        have := w_lt_get Z6.out.2.1.l
        omega
      clear hW9 hbb b9
      go_upto_region 29 with fail
      rw [HW9.out.1]
      rw [HW9.out.2]
      obtain ⟨c0, c1, c2, c3, c4⟩ := Hi.five_cells n9
      have l0 := w_lt_get n9
      have cw : W9.cell? ⟨b + 2, 5, none⟩ = some (.int .u64 5) := by
        have q1 := HI9.out.1.l
        simp only [World.cell?, q1]
        rfl
      have fw : W9.frozen? ⟨b + 2, 5, none⟩ = false := by simp [World.frozen?, HI9.out.1.l]
      have lw := w_lt_get HI9.out.1.l
      obtain ⟨WA, hWA⟩ : ∃ WA, W9.setCell ⟨b + 2, 5, none⟩ (.int .u64 6) = WA := ⟨_, rfl⟩
      have HWA : Hid (W9.setCell ⟨b + 2, 5, none⟩ (.int .u64 6) = WA) := hWA
      have HA : Hid (Hi.In5 WA b Hi.hA ∧ WA.heap[bb]? = some (.cells #[.slice (some ⟨b, 0, none⟩) 3 3, .slice (some ⟨b + 1, 0, none⟩) 4 4, .slice (some ⟨b + 2, 0, none⟩) 2 2, .slice (some ⟨b + 3, 0, none⟩) 4 4, .slice (some ⟨b + 4, 0, none⟩) 1 1] 25) ∧ Below z5.heap.size z5 WA) := by
        rw [← hWA]
        refine ⟨Hi.setA HI9.out.1, ?_, HI9.out.2.setCell (p := ⟨b + 2, 5, none⟩) (show z5.heap.size ≤ b + 2 by have := Z6.out.2.2; omega) _⟩
        first | exact (heap_setCell_other _ _ _ _ hne).trans n9 | exact (heap_setCell_other _ _ _ _ hne.symm).trans n9
      clear hWA n9
      go_upto_region 30 with fail
      rw [HWA.out]
      clear c0 c1 c2 c3 c4 l0 cw fw lw
      obtain ⟨c0, c1, c2, c3, c4⟩ := Hi.five_cells HA.out.2.1
      have l0 := w_lt_get HA.out.2.1
      have BW : Hid (∀ wx, Below z3.heap.size z3 wx → Below w.heap.size w wx) := fun wx hx => (HT.out wx (HX8.out wx (btrI Z3.out.1 hx)).2).2.2.2
      go_wp2_with fail
      refine (HRW.out WA b HA.out.1).mono ?_
      rintro e zA ⟨mo, mr, rfl, hp, hb⟩
      have ZA : Hid (Below z5.heap.size z5 zA ∧ HasB zA (.slice mo 128 mr) B1 ∧ 128 ≤ mr) := ⟨btrI HA.out.2.2 hb, hp⟩
      clear hb hp c0 c1 c2 c3 c4 l0
      go_wp2_with fail
      refine (HDC.out zA mo mr (BW.out zA (btrI Z4.out.1 (btrI Z5.out.1 ZA.out.1))) ZA.out.2.1 ZA.out.2.2).mono ?_
      rintro e zB ⟨T8, x8, rfl, ht, hb⟩
      have HU : Hid (∀ wx, Below zB.heap.size zB wx → IsTold wx (6, [(2, 32)]) (.iface T3 x3) ∧ (IsTold wx (14, []) (.iface T6 x6) ∧ IsTold wx (14, []) (.iface T7 x7)) ∧ IsTold wx (8, [(4, 1)]) (.iface T8 x8) ∧ Below w.heap.size w wx) := fun wx hx => by
        have qA : Below zA.heap.size zA wx := btrI hb hx
        have q5 : Below z5.heap.size z5 wx := btrI ZA.out.1 qA
        have q4 : Below z4.heap.size z4 wx := btrI Z5.out.1 q5
        have q3 : Below z3.heap.size z3 wx := btrI Z4.out.1 q4
        exact ⟨Z3.out.2.keep (Below.keeps q3), ⟨Z4.out.2.keep (Below.keeps q4), Z5.out.2.keep (Below.keeps q5)⟩, ht.keep (Below.keeps hx), BW.out wx q3⟩
      have HUB : Hid (Below zB.heap.size zB zB) := Below.refl _ _
      clear hb ht
      go_wp2_with fail
      refine (E_calls 6 zB).mono ?_
      rintro e e3 ⟨rfl, hb⟩
      have E3 : Hid (Below zB.heap.size zB e3) := btrI HUB.out hb
      clear hb
      go_wp2_with fail
      refine (refAt_calls 2 32 6 e3).mono ?_
      rintro e f3 ⟨g3, rfl, hg3, hb⟩
      have F3 : Hid (Below zB.heap.size zB f3 ∧ f3.heap[g3]? = some (.cells #[.int .i64 2, .int .i64 32] 75)) := ⟨btrI E3.out hb, hg3⟩
      clear hb hg3
      go_wp2_with fail
      refine (HSE.out f3 (.iface T3 x3) 6 2 32 g3 (HFR.out f3 ((fun wx hx => (HU.out wx hx).2.2.2) f3 F3.out.1)).2.2 ((fun wx hx => (HU.out wx hx).1) f3 F3.out.1) F3.out.2).mono ?_
      rintro e s3 ⟨rfl, hb⟩
      have S3 : Hid (Below zB.heap.size zB s3) := btrI F3.out.1 hb
      clear hb
      go_wp2_with fail
      refine (E_calls 14 s3).mono ?_
      rintro e e4 ⟨rfl, hb⟩
      have E4 : Hid (Below zB.heap.size zB e4) := btrI S3.out hb
      clear hb
      go_wp2_with fail
      refine (HSZ0.out e4 (.iface T6 x6) 14 (HFR.out e4 ((fun wx hx => (HU.out wx hx).2.2.2) e4 E4.out)).2.2 ((fun wx hx => (HU.out wx hx).2.1.1) e4 E4.out)).mono ?_
      rintro e s4 ⟨rfl, hb⟩
      have S4 : Hid (Below zB.heap.size zB s4) := btrI E4.out hb
      clear hb
      go_wp2_with fail
      refine (E_calls 14 s4).mono ?_
      rintro e e5 ⟨rfl, hb⟩
      have E5 : Hid (Below zB.heap.size zB e5) := btrI S4.out hb
      clear hb
      go_wp2_with fail
      refine (HSZ0.out e5 (.iface T7 x7) 14 (HFR.out e5 ((fun wx hx => (HU.out wx hx).2.2.2) e5 E5.out)).2.2 ((fun wx hx => (HU.out wx hx).2.1.2) e5 E5.out)).mono ?_
      rintro e s5 ⟨rfl, hb⟩
      have S5 : Hid (Below zB.heap.size zB s5) := btrI E5.out hb
      clear hb
      go_wp2_with fail
      refine (E_calls 8 s5).mono ?_
      rintro e e6 ⟨rfl, hb⟩
      have E6 : Hid (Below zB.heap.size zB e6) := btrI S5.out hb
      clear hb
      go_wp2_with fail
      refine (refAt_calls 4 1 8 e6).mono ?_
      rintro e f6 ⟨g6, rfl, hg6, hb⟩
      have F6 : Hid (Below zB.heap.size zB f6 ∧ f6.heap[g6]? = some (.cells #[.int .i64 4, .int .i64 1] 75)) := ⟨btrI E6.out hb, hg6⟩
      clear hb hg6
      go_wp2_with fail
      refine (HSE.out f6 (.iface T8 x8) 8 4 1 g6 (HFR.out f6 ((fun wx hx => (HU.out wx hx).2.2.2) f6 F6.out.1)).2.2 ((fun wx hx => (HU.out wx hx).2.2.1) f6 F6.out.1) F6.out.2).mono ?_
      rintro e s6 ⟨rfl, hb⟩
      have S6 : Hid (Below zB.heap.size zB s6) := btrI F6.out.1 hb
      clear hb
      go_wp2
      go_ret
      exact ⟨rfl, (HU.out s6 S6.out).2.2.2⟩
end Go.Proofs.YtamedcnjanichaaDoor
