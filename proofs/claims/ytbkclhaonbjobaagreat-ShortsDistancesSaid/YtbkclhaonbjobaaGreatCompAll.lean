/- slices.CompactFunc with normal's closure at every row of arcs. -/
import Derived.Test.YtbkclhaonbjobaaGreatCompI
import Derived.Deep.RegionHeld3
namespace Go.Proofs.YtbkclhaonbjobaaGreat
open Go.RowKit Go.Extern Go.Sort Go.Shelf

attribute [local go_sem] Oper.semAt_some

theorem CI.done {w wr : World} {b o kk p : Nat} {d D : Array (Int × Int × Int)} (h : CI w b o d wr D kk p) (hk : kk ≤ d.size) (cap : Nat) (vs : List Value) : HasArcs (wr.setCells b (o + kk * 3) vs) (.slice (some ⟨b, o, none⟩) kk cap) (comp d p) ∧ Touch b w (wr.setCells b (o + kk * 3) vs) := by
  refine ⟨⟨_, _, by rw [h.len], fun j a hj => ?_⟩, h.touch.cells _ _⟩
  have hlt : j < kk := by have := (List.getElem?_eq_some_iff.1 hj).1; rw [h.len] at this; exact this
  obtain rfl : D[j]! = a := Option.some.inj ((h.front j hlt).symm.trans hj)
  obtain ⟨⟨c0, c1, c2⟩, _⟩ := holds_at h.holds j (by rw [h.sz]; omega)
  have keep : ∀ c, c < kk * 3 → (wr.setCells b (o + kk * 3) vs).cell? ⟨b, o + c, none⟩ = wr.cell? ⟨b, o + c, none⟩ := fun c hc => World.cell?_setCells_out _ _ _ _ _ (fun _ _ => Or.inl (by simp; omega))
  exact ⟨b, o, rfl, by rw [size_cells]; exact h.lt, (keep (j * 3) (by omega)).trans c0, (keep (j * 3 + 1) (by omega)).trans c1, (keep (j * 3 + 2) (by omega)).trans c2⟩

set_option maxRecDepth 100000 in
set_option maxHeartbeats 1000000 in
theorem compact_calls (d : Array (Int × Int × Int)) (b o n cap : Nat) (w : World) (hn : d.size = n) (hcap : n ≤ cap) (hn6 : n ≤ 262144) (hH : HoldsK encA 3 w b o d) (hb : b < w.heap.size) :
    Calls Tryz.prog 49 #[.slice (some ⟨b, o, none⟩) n cap, .func (.func 50) #[] #[]] w fun e w' => e = .returned (.slice (some ⟨b, o, none⟩) (comp d n).length cap) ∧ HasArcs w' (.slice (some ⟨b, o, none⟩) (comp d n).length cap) (comp d n) ∧ Touch b w w' := by
  have HEQ : Hid (∀ x y wx, Calls Tryz.prog 50 #[arcV x, arcV y] wx fun e w' => e = .returned (.bool (endsI x y == 0)) ∧ Laid wx w') := fun x y wx => compactEq_calls x y wx
  have HN : Hid (d.size = n) := hn
  by_cases h2 : (n : Int) < 2
  · have HH : Hid (HasArcs w (.slice (some ⟨b, o, none⟩) n cap) (comp d n) ∧ (comp d n).length = n) := by
      rcases (show n = 0 ∨ n = 1 by omega) with rfl | rfl
      · exact ⟨⟨_, _, rfl, fun j a hj => by simp [comp] at hj⟩, rfl⟩
      · exact ⟨(CI.start hH hb).arcs (by omega) cap, (CI.start hH hb).len⟩
    clear hH hn
    go_enter Tryz.func49, Tryz.ntmps49
    go_wp2
    go_ret
    rw [HH.out.2]
    exact ⟨rfl, HH.out.1, ⟨rfl, rfl, rfl, Nat.le_refl _, fun _ _ _ => rfl⟩⟩
  have HC1 : Hid (CI w b o d w d 1 1) := CI.start hH hb
  clear hH hn
  go_enter Tryz.func49, Tryz.ntmps49
  go_wp2_with fail
  go_loopw [5] (fun kv wr => ∃ k : Nat, 1 ≤ k ∧ k ≤ n ∧ kv = .int .i64 k ∧ CI w b o d wr d k k) (fun kv _ => n - (intOf kv).toNat)
  case atStart => exact ⟨1, Nat.le_refl _, by omega, rfl, HC1.out⟩
  case round =>
    obtain ⟨k, hk1, hk, rfl, hC⟩ := hrel
    have HC : Hid (CI w b o d wr d k k) := hC
    clear hC
    by_cases hlt : k < n
    · obtain ⟨j, hkj⟩ : ∃ j, k = j + 1 := ⟨k - 1, by omega⟩
      have HKJ : Hid (k = j + 1) := hkj
      obtain ⟨⟨x0, x1, x2⟩, hx⟩ : ∃ x, d[k]! = x := ⟨_, rfl⟩
      obtain ⟨⟨p0, p1, p2⟩, hp⟩ : ∃ p, d[j]! = p := ⟨_, rfl⟩
      have HX : Hid (d[k]! = (x0, x1, x2) ∧ d[j]! = (p0, p1, p2)) := ⟨hx, hp⟩
      have HCL : Hid (∀ wx, Laid wr wx → (wx.cell? ⟨b, o + k * 3, none⟩ = some (.int .i64 x0) ∧ wx.cell? ⟨b, o + k * 3 + 1, none⟩ = some (.int .i64 x1) ∧ wx.cell? ⟨b, o + k * 3 + 2, none⟩ = some (.int .i64 x2)) ∧ wx.cell? ⟨b, o + j * 3, none⟩ = some (.int .i64 p0) ∧ wx.cell? ⟨b, o + j * 3 + 1, none⟩ = some (.int .i64 p1) ∧ wx.cell? ⟨b, o + j * 3 + 2, none⟩ = some (.int .i64 p2)) := fun wx hl => by
        have h := (HC.out.laid hl).holds
        have h1 := (holds_at h k (by have := HN.out; omega)).1
        have h2 := (holds_at h j (by have := HN.out; omega)).1
        rw [hx] at h1
        rw [hp] at h2
        exact ⟨h1, h2⟩
      have HE : Hid (∀ wx, Calls Tryz.prog 50 #[.agg #[.int .i64 x0, .int .i64 x1, .int .i64 x2], .agg #[.int .i64 p0, .int .i64 p1, .int .i64 p2]] wx fun e w' => e = .returned (.bool (endsI (x0, x1, x2) (p0, p1, p2) == 0)) ∧ Laid wx w') := fun wx => HEQ.out (x0, x1, x2) (p0, p1, p2) wx
      clear hx hp
      obtain ⟨⟨c0, c1, c2⟩, c3, c4, c5⟩ := HCL.out wr (Laid.refl wr)
      have hj1 : (j : Int) < n := by omega
      have hj4 : (0 : Int) ≤ j := by omega
      have hj5 : (k : Int) - 1 = (j : Int) := by omega
      have hj7 : IntKind.i64.wrap (j : Int) = (j : Int) := by rw [IntKind.wrap_i64] <;> omega
      have hj8 : IntKind.i64.wrap ((k : Int) - 1) = (j : Int) := by rw [IntKind.wrap_i64] <;> omega
      have hk4 : (0 : Int) ≤ k := by omega
      have hk5 : (k : Int) < n := by omega
      clear hkj
      have HLD : Hid (Laid wr wr.drew) := (Laid.refl wr).drew
      by_cases hE : endsI (x0, x1, x2) (p0, p1, p2) = 0
      · have HE' : Hid (∀ wx, Calls Tryz.prog 50 #[.agg #[.int .i64 x0, .int .i64 x1, .int .i64 x2], .agg #[.int .i64 p0, .int .i64 p1, .int .i64 p2]] wx fun e w' => e = .returned (.bool true) ∧ Laid wx w') := fun wx => by have h := HE.out wx; rw [show (endsI (x0, x1, x2) (p0, p1, p2) == 0) = true by simpa using hE] at h; exact h
        have HZ : Hid (endsI d[k]! d[k - 1]! = 0) := by rw [show k - 1 = j by have := HKJ.out; omega, HX.out.1, HX.out.2]; exact hE
        clear HE hE
        go_wp2_with fail
        go_region_held3 (fun w' => w'.cell? ⟨b, o + k * 3, none⟩ = some (.int .i64 x0) ∧ w'.cell? ⟨b, o + k * 3 + 1, none⟩ = some (.int .i64 x1) ∧ w'.cell? ⟨b, o + k * 3 + 2, none⟩ = some (.int .i64 x2) ∧ w'.cell? ⟨b, o + j * 3, none⟩ = some (.int .i64 p0) ∧ w'.cell? ⟨b, o + j * 3 + 1, none⟩ = some (.int .i64 p1) ∧ w'.cell? ⟨b, o + j * 3 + 2, none⟩ = some (.int .i64 p2)) (go_keep) (first
          | (go_at_call 50; refine (HE'.out _).mono ?_; rintro e w1 ⟨rfl, hL1⟩; have HL1 : Hid (Laid wr w1) := HLD.out.trans hL1; obtain ⟨⟨g0, g1, g2⟩, g3, g4, g5⟩ := HCL.out w1 HL1.out; clear hL1))
        all_goals
          have HC2 : Hid (CI w b o d w1 d k (k + 1)) := (HC.out.laid HL1.out).skip (by omega) HZ.out
          obtain ⟨m, hm⟩ : ∃ m, k + m = n := ⟨n - k, by omega⟩
          have hsl : ∀ wx, (Instr.slice 22 (.slice (some ⟨b, o, none⟩) n cap) (some (.int .i64 (k : Int))) none none).run Tryz.prog wx = .ok (.slice (some ⟨b, o + k * 3, none⟩) m (cap - k)) wx := fun wx => slice_from wx b o n m cap k hm.symm (by omega) hcap
          have HM : Hid (n = k + m) := hm.symm
          clear HC HCL HL1 HZ HE' HX HLD g0 g1 g2 g3 g4 g5 c0 c1 c2 c3 c4 c5 HKJ hj1 hj4 hj5 hj7 hj8
          go_wp2_with fail
          go_loopw [5, 7] (fun kv iv wr => ∃ (kk i : Nat) (D : Array (Int × Int × Int)), kv = .int .i64 kk ∧ iv = .int .i64 i ∧ 1 ≤ i ∧ i ≤ m ∧ kk < k + i ∧ CI w b o d wr D kk (k + i)) (fun _ iv _ => m - (intOf iv).toNat)
          case atStart => exact ⟨k, 1, d, rfl, rfl, by omega, by omega, by omega, HC2.out⟩
          case round =>
            obtain ⟨kk, i, D, rfl, rfl, hi1, him, hkk, hC⟩ := hrel
            have HC : Hid (CI w b o d wr D kk (k + i)) := hC
            clear hC HC2 hsl
            have hk0 : (0 : Int) ≤ kk := by omega
            have hkn : (kk : Int) < n := by omega
            by_cases hil : i < m
            · obtain ⟨l, hli⟩ : ∃ l, i = l + 1 := ⟨i - 1, by omega⟩
              have HLI : Hid (i = l + 1) := hli
              obtain ⟨⟨y0, y1, y2⟩, hy⟩ : ∃ x, d[k + i]! = x := ⟨_, rfl⟩
              obtain ⟨⟨z0, z1, z2⟩, hz⟩ : ∃ p, d[k + l]! = p := ⟨_, rfl⟩
              have HY : Hid (d[k + i]! = (y0, y1, y2) ∧ d[k + l]! = (z0, z1, z2)) := ⟨hy, hz⟩
              have HCL : Hid (∀ wx, Laid wr wx → (wx.cell? ⟨b, o + k * 3 + i * 3, none⟩ = some (.int .i64 y0) ∧ wx.cell? ⟨b, o + k * 3 + i * 3 + 1, none⟩ = some (.int .i64 y1) ∧ wx.cell? ⟨b, o + k * 3 + i * 3 + 2, none⟩ = some (.int .i64 y2)) ∧ wx.cell? ⟨b, o + k * 3 + l * 3, none⟩ = some (.int .i64 z0) ∧ wx.cell? ⟨b, o + k * 3 + l * 3 + 1, none⟩ = some (.int .i64 z1) ∧ wx.cell? ⟨b, o + k * 3 + l * 3 + 2, none⟩ = some (.int .i64 z2)) := fun wx hl => by
                have h := HC.out.laid hl
                have hs := h.sz
                have hn := HN.out
                have h1 := (holds_at h.holds (k + i) (by omega)).1
                have h2 := (holds_at h.holds (k + l) (by omega)).1
                rw [h.rest (k + i) (by omega) (by omega), hy] at h1
                rw [h.rest (k + l) (by omega) (by omega), hz] at h2
                rw [show o + (k + i) * 3 = o + k * 3 + i * 3 by omega] at h1
                rw [show o + (k + l) * 3 = o + k * 3 + l * 3 by omega] at h2
                exact ⟨h1, h2⟩
              have HE : Hid (∀ wx, Calls Tryz.prog 50 #[.agg #[.int .i64 y0, .int .i64 y1, .int .i64 y2], .agg #[.int .i64 z0, .int .i64 z1, .int .i64 z2]] wx fun e w' => e = .returned (.bool (endsI (y0, y1, y2) (z0, z1, z2) == 0)) ∧ Laid wx w') := fun wx => HEQ.out (y0, y1, y2) (z0, z1, z2) wx
              clear hy hz
              obtain ⟨⟨c0, c1, c2⟩, c3, c4, c5⟩ := HCL.out wr (Laid.refl wr)
              have hj1 : (l : Int) < m := by omega
              have hj4 : (0 : Int) ≤ l := by omega
              have hj5 : (i : Int) - 1 = (l : Int) := by omega
              have hj7 : IntKind.i64.wrap (l : Int) = (l : Int) := by rw [IntKind.wrap_i64] <;> omega
              have hj8 : IntKind.i64.wrap ((i : Int) - 1) = (l : Int) := by rw [IntKind.wrap_i64] <;> omega
              have hi4 : (0 : Int) ≤ i := by omega
              have hi5 : (i : Int) < m := by omega
              have HLD : Hid (Laid wr wr.drew) := (Laid.refl wr).drew
              clear hli
              by_cases hE : endsI (y0, y1, y2) (z0, z1, z2) = 0
              · have HE' : Hid (∀ wx, Calls Tryz.prog 50 #[.agg #[.int .i64 y0, .int .i64 y1, .int .i64 y2], .agg #[.int .i64 z0, .int .i64 z1, .int .i64 z2]] wx fun e w' => e = .returned (.bool true) ∧ Laid wx w') := fun wx => by have h := HE.out wx; rw [show (endsI (y0, y1, y2) (z0, z1, z2) == 0) = true by simpa using hE] at h; exact h
                have HZ : Hid (endsI d[k + i]! d[k + i - 1]! = 0) := by rw [show k + i - 1 = k + l by have := HLI.out; omega, HY.out.1, HY.out.2]; exact hE
                clear HE hE
                go_wp2_with fail
                go_region_held3 (fun w' => w'.cell? ⟨b, o + k * 3 + i * 3, none⟩ = some (.int .i64 y0) ∧ w'.cell? ⟨b, o + k * 3 + i * 3 + 1, none⟩ = some (.int .i64 y1) ∧ w'.cell? ⟨b, o + k * 3 + i * 3 + 2, none⟩ = some (.int .i64 y2) ∧ w'.cell? ⟨b, o + k * 3 + l * 3, none⟩ = some (.int .i64 z0) ∧ w'.cell? ⟨b, o + k * 3 + l * 3 + 1, none⟩ = some (.int .i64 z1) ∧ w'.cell? ⟨b, o + k * 3 + l * 3 + 2, none⟩ = some (.int .i64 z2)) (go_keep) (first
                  | (go_at_call 50; refine (HE'.out _).mono ?_; rintro e w2 ⟨rfl, hL2⟩; have HL2 : Hid (Laid wr w2) := HLD.out.trans hL2; obtain ⟨⟨g0, g1, g2⟩, g3, g4, g5⟩ := HCL.out w2 HL2.out; clear hL2))
                all_goals
                  have HC3 : Hid (CI w b o d w2 D kk (k + (i + 1))) := (HC.out.laid HL2.out).skip (by omega) HZ.out
                  go_wp2
                  go_roundw
                  case rel => exact ⟨kk, i + 1, D, rfl, by go_num, by omega, by omega, by omega, HC3.out⟩
                  case measure => simp [intOf]; omega
              · have HE' : Hid (∀ wx, Calls Tryz.prog 50 #[.agg #[.int .i64 y0, .int .i64 y1, .int .i64 y2], .agg #[.int .i64 z0, .int .i64 z1, .int .i64 z2]] wx fun e w' => e = .returned (.bool false) ∧ Laid wx w') := fun wx => by have h := HE.out wx; rw [show (endsI (y0, y1, y2) (z0, z1, z2) == 0) = false by simpa using hE] at h; exact h
                have HZ : Hid (endsI d[k + i]! d[k + i - 1]! ≠ 0) := by rw [show k + i - 1 = k + l by have := HLI.out; omega, HY.out.1, HY.out.2]; exact hE
                clear HE hE
                go_wp2_with fail
                go_region_held3 (fun w' => w'.cell? ⟨b, o + k * 3 + i * 3, none⟩ = some (.int .i64 y0) ∧ w'.cell? ⟨b, o + k * 3 + i * 3 + 1, none⟩ = some (.int .i64 y1) ∧ w'.cell? ⟨b, o + k * 3 + i * 3 + 2, none⟩ = some (.int .i64 y2) ∧ w'.cell? ⟨b, o + k * 3 + l * 3, none⟩ = some (.int .i64 z0) ∧ w'.cell? ⟨b, o + k * 3 + l * 3 + 1, none⟩ = some (.int .i64 z1) ∧ w'.cell? ⟨b, o + k * 3 + l * 3 + 2, none⟩ = some (.int .i64 z2)) (go_keep) (first
                  | (go_at_call 50; refine (HE'.out _).mono ?_; rintro e w2 ⟨rfl, hL2⟩; have HL2 : Hid (Laid wr w2) := HLD.out.trans hL2; obtain ⟨⟨g0, g1, g2⟩, g3, g4, g5⟩ := HCL.out w2 HL2.out; clear hL2))
                all_goals
                  have hC2 := HC.out.laid HL2.out
                  obtain ⟨⟨a0, a1, a2⟩, f0, f1, f2⟩ := holds_at hC2.holds kk (by have := hC2.sz; have := HN.out; omega)
                  have HC3 : Hid (CI w b o d (((w2.setCell ⟨b, o + kk * 3, none⟩ (.int .i64 y0)).setCell ⟨b, o + kk * 3 + 1, none⟩ (.int .i64 y1)).setCell ⟨b, o + kk * 3 + 2, none⟩ (.int .i64 y2)) (D.setIfInBounds kk d[k + i]!) (kk + 1) (k + (i + 1))) := by
                    have h := hC2.put hkk (by have := HN.out; omega) HZ.out
                    rw [HY.out.1] at h
                    rw [HY.out.1]
                    exact h
                  clear hC2 HC HCL HL2 HZ HE' HY HLD c0 c1 c2 c3 c4 c5
                  go_wp2
                  go_roundw
                  case rel => exact ⟨kk + 1, i + 1, _, by go_num, by go_num, by omega, by omega, by omega, HC3.out⟩
                  case measure => simp [intOf]; omega
            · obtain rfl : i = m := by omega
              obtain ⟨m', hm'⟩ : ∃ m', kk + m' = n := ⟨n - kk, by omega⟩
              have hsl : ∀ wx, (Instr.slice 22 (.slice (some ⟨b, o, none⟩) n cap) (some (.int .i64 (kk : Int))) none none).run Tryz.prog wx = .ok (.slice (some ⟨b, o + kk * 3, none⟩) m' (cap - kk)) wx := fun wx => slice_from wx b o n m' cap kk hm'.symm (by omega) hcap
              have hsh : ∀ wx, (Instr.slice 22 (.slice (some ⟨b, o, none⟩) n cap) none (some (.int .i64 (kk : Int))) none).run Tryz.prog wx = .ok (.slice (some ⟨b, o, none⟩) kk cap) wx := fun wx => slice_to wx b o n cap kk (by omega) (by omega)
              obtain ⟨W8, hW8⟩ : ∃ W8, wr.setCells b (o + kk * 3) (wiped m') = W8 := ⟨_, rfl⟩
              have hcl : (Builtin.clear_ #[22] 0 #[.slice (some ⟨b, o + kk * 3, none⟩) m' (cap - kk)]).run Tryz.prog wr = .ok (.tuple #[]) W8 := by
                rw [← hW8]
                have hs := HC.out.sz
                have hn := HN.out
                refine clear_run b (o + kk * 3) m' (cap - kk) wr (by omega) (fun j hj => ?_) (fun j hj => ?_)
                · have h := (HC.out.holds (kk * 3 + j) (by rw [size_flatK]; omega)).1
                  rw [Nat.add_assoc, h]; rfl
                · have h := (HC.out.holds (kk * 3 + j) (by rw [size_flatK]; omega)).2
                  rw [Nat.add_assoc]; exact h
              have HF : Hid ((comp d n).length = kk ∧ HasArcs W8 (.slice (some ⟨b, o, none⟩) kk cap) (comp d n) ∧ Touch b w W8) := by
                have h := HC.out
                rw [← HM.out] at h
                have hd := h.done (by have := HN.out; omega) cap (wiped m')
                rw [hW8] at hd
                exact ⟨h.len, hd⟩
              clear HC hW8
              go_wp2
              go_ret
              rw [HF.out.1]
              exact ⟨rfl, HF.out.2⟩
      · have HE' : Hid (∀ wx, Calls Tryz.prog 50 #[.agg #[.int .i64 x0, .int .i64 x1, .int .i64 x2], .agg #[.int .i64 p0, .int .i64 p1, .int .i64 p2]] wx fun e w' => e = .returned (.bool false) ∧ Laid wx w') := fun wx => by have h := HE.out wx; rw [show (endsI (x0, x1, x2) (p0, p1, p2) == 0) = false by simpa using hE] at h; exact h
        have HZ : Hid (endsI d[k]! d[k - 1]! ≠ 0) := by rw [show k - 1 = j by have := HKJ.out; omega, HX.out.1, HX.out.2]; exact hE
        clear HE hE
        go_wp2_with fail
        go_region_held3 (fun w' => w'.cell? ⟨b, o + k * 3, none⟩ = some (.int .i64 x0) ∧ w'.cell? ⟨b, o + k * 3 + 1, none⟩ = some (.int .i64 x1) ∧ w'.cell? ⟨b, o + k * 3 + 2, none⟩ = some (.int .i64 x2) ∧ w'.cell? ⟨b, o + j * 3, none⟩ = some (.int .i64 p0) ∧ w'.cell? ⟨b, o + j * 3 + 1, none⟩ = some (.int .i64 p1) ∧ w'.cell? ⟨b, o + j * 3 + 2, none⟩ = some (.int .i64 p2)) (go_keep) (first
          | (go_at_call 50; refine (HE'.out _).mono ?_; rintro e w1 ⟨rfl, hL1⟩; have HL1 : Hid (Laid wr w1) := HLD.out.trans hL1; obtain ⟨⟨g0, g1, g2⟩, g3, g4, g5⟩ := HCL.out w1 HL1.out; clear hL1))
        all_goals
          have HC2 : Hid (CI w b o d w1 d (k + 1) (k + 1)) := (HC.out.laid HL1.out).add (Or.inr HZ.out)
          go_wp2
          go_roundw
          case rel => exact ⟨k + 1, by omega, by omega, by go_num, HC2.out⟩
          case measure => simp [intOf]; omega
    · obtain rfl : k = n := by omega
      have HF : Hid (HasArcs wr (.slice (some ⟨b, o, none⟩) k cap) (comp d k) ∧ (comp d k).length = k ∧ Touch b w wr) := ⟨HC.out.arcs (by have := HN.out; omega) cap, HC.out.len, HC.out.touch⟩
      go_wp2
      go_ret
      rw [HF.out.2.1]
      exact ⟨rfl, HF.out.1, HF.out.2.2⟩
end Go.Proofs.YtbkclhaonbjobaaGreat
