/- the law WholeLines. (genwa.py) -/
import Derived.Test.YthgmhhlgjooeaaaDoorGwM
import Derived.Test.YthgmhhlgjooeaaaDoorSame
import Derived.Test.YthgmhhlgjooeaaaDoorJoin
import Derived.Test.YthgmhhlgjooeaaaDoorSameG
import Derived.Test.YthgmhhlgjooeaaaDoorSeen
import Derived.Test.YthgmhhlgjooeaaaDoorHdM
namespace Go.Proofs.YthgmhhlgjooeaaaDoor.Gt
open Go Go.Lib Go.RowKit Go.Extern Hi

attribute [local go_sem] Oper.semAt_some

def litT : ByteArray := ⟨#[108, 105, 110, 101, 32, 50, 58, 32, 110, 111, 32, 115, 117, 99, 104, 32, 110, 111, 100, 101]⟩
theorem litT_eq : (⟨(Lib.join (([((1 : Int), (2 : Int))].take 64).map F1.wordOf ++ (if F1.codeOf (F1.cutTail (.iface 27 (.int .i64 7)) [(1, 2)] 64) = 0 then [] else [F1.numText (F1.codeOf (F1.cutTail (.iface 27 (.int .i64 7)) [(1, 2)] 64))])) [58, 32]).toArray⟩ : ByteArray) = litT := by
  have d2 : itoa 2 = [50] := by unfold itoa; rw [if_neg (by decide)]; exact decDigits_one (by decide)
  have e1 : F1.codeOf (F1.cutTail (.iface 27 (.int .i64 7)) [((1 : Int), (2 : Int))] 64) = 7 := rfl
  have e2 : F1.wordOf (1, 2) = [108, 105, 110, 101, 32, 50] := by
    unfold F1.wordOf
    rw [d2]
    rfl
  rw [e1, if_neg (by decide)]
  have e3 : ([((1 : Int), (2 : Int))].take 64).map F1.wordOf = [[108, 105, 110, 101, 32, 50]] := by
    show [F1.wordOf (1, 2)] = _
    rw [e2]
  rw [e3]
  rfl
theorem own_lenL {w : World} {B n m : Nat} {e : TypeId} {z : Nat} {ao : Option Addr} {xs : List Value} (h : w.ownsRow B e z (.slice ao n m) n xs) : n ≤ maxLen := by
  rcases h.2 with ⟨e1, h0⟩ | ⟨g, cap, cur, e1, hg, hh, hc, hcm, r⟩
  · rw [h0]; exact Nat.zero_le _
  · omega
theorem bs_addL (a b : ByteArray) : bs (a ++ b) = bs a ++ bs b := by
  unfold bs
  rw [ByteArray.data_append, Array.toList_append]
/-- what Parse answers of both texts. -/
def TwoE (k : Nat) (E E2 : Int × List (Int × Int)) : Prop := (E = (0, []) ∧ E2 = (0, [])) ∨ ∃ c l : Int, c ≠ 0 ∧ 0 ≤ l ∧ l ≤ 2000000 ∧ E = (c, [(1, l)]) ∧ E2 = (c, [(1, if l = 0 then 0 else l + k)])
theorem line_few : ∀ (f n : Nat) (l : By) (acc : List Row) (M : Nat), n + f ≤ M → (∀ r ∈ acc, r.1 ≤ M) → (∀ r ∈ (rowsF f n l acc).2, r.1 ≤ M) ∧ (rowsF f n l acc).1.2 ≤ M
  | 0, n, l, acc, M, _, h => ⟨h, Nat.zero_le _⟩
  | f + 1, n, l, acc, M, hn, h => by
    unfold rowsF
    split
    · exact ⟨h, Nat.zero_le _⟩
    · split
      · exact ⟨by simp, by show n ≤ M; omega⟩
      · split
        · exact ⟨by simp, by show n ≤ M; omega⟩
        · refine line_few f (n + 1) (restOf l) _ M (by omega) fun r hr => ?_
          split at hr
          · exact h r hr
          · rcases List.mem_append.1 hr with hr | hr
            · exact h r hr
            · simp at hr; subst hr; show n ≤ M; omega
theorem lnK_few {R : List Row} {M : Nat} (h : ∀ r ∈ R, r.1 ≤ M) : ∀ j, lnK R j ≤ M
  | 0 => Nat.zero_le _
  | j + 1 => by
    rw [lnK, List.getD_eq_getElem?_getD]
    cases e : R[j]? with
    | none => exact Nat.zero_le _
    | some r => exact h r (List.mem_of_getElem? e)
theorem lnE_few {R : List Row} {M : Nat} (h : ∀ r ∈ R, r.1 ≤ M) (j : Nat) : lnE R j ≤ M := by
  unfold lnE
  split
  · exact lnK_few h _
  · exact lnK_few h _
theorem gF_few {R : List Row} {M : Nat} (h : ∀ r ∈ R, r.1 ≤ M) (N : Nat) : ∀ (m j : Nat) (acc : List Arc3), (gF R N m j acc).1.2 ≤ M
  | 0, j, acc => by
    rw [gF]
    split
    · exact lnE_few h _
    · split
      · exact (show lnK R (j + 2) ≤ M from lnK_few h (j + 2))
      · exact Nat.zero_le _
  | m + 1, j, acc => by
    rw [gF]
    split
    · exact lnE_few h _
    · exact gF_few h N m (j + 1) _
theorem gR_few {R : List Row} {M : Nat} (h : ∀ r ∈ R, r.1 ≤ M) : (gR R).1.2 ≤ M := by
  unfold gR
  split
  · exact lnE_few h _
  · split
    · exact Nat.zero_le _
    · exact gF_few h _ _ _ _
theorem ps_few {t : By} {c l : Int} (ht : t.length ≤ 100000) (h : psE t = (c, [(1, l)])) : l ≤ 2000000 := by
  have hf := line_few t.length 1 t [] 100001 (by omega) (by simp)
  unfold psE at h
  split at h
  · split at h
    · exact absurd (congrArg Prod.snd h) (by simp)
    · have e := congrArg (fun x => x.2) h
      simp only [List.cons.injEq, Prod.mk.injEq, and_true, true_and] at e
      have hr : ∀ r ∈ rowsR t, r.1 ≤ 100001 := by unfold rowsR; rw [if_neg (by omega)]; exact hf.1
      have := gR_few hr
      omega
  · unfold rowsE at h
    rw [if_neg (by omega)] at h
    split at h
    · exact absurd (congrArg Prod.snd h) (by simp)
    · have e := congrArg (fun x => x.2) h
      simp only [List.cons.injEq, Prod.mk.injEq, and_true, true_and] at e
      have := hf.2
      omega
theorem two_of {k : Nat} {t : By} (ht : t.length ≤ 100000) (hk : k ≤ 255) : TwoE k (psE t) (psE (remL k ++ t)) := by
  rcases (ps_rem k ht hk).2 with h | ⟨c, l, hc, hl, h1, h2⟩ | ⟨c, hc, h1, h2⟩
  · exact Or.inl h
  · refine Or.inr ⟨c, l, hc, by omega, ps_few ht h1, h1, ?_⟩
    rw [h2, if_neg (by omega)]
    simp
  · refine Or.inr ⟨c, 0, hc, Int.le_refl _, by decide, h1, ?_⟩
    rw [h2, if_pos rfl]
theorem told_err {w : World} {c : Int} {ps : List (Int × Int)} {v : Value} (hc : c ≠ 0) (h : IsTold w (c, ps) v) : IsErr w (.iface 27 (.int .i64 c)) ps v := by
  rcases h with ⟨e, _⟩ | ⟨_, h⟩
  · exact absurd (congrArg Prod.fst e) hc
  · exact h
theorem told_nilL {w : World} {v : Value} (h : IsTold w (0, []) v) : v = .nilIface := by
  rcases h with ⟨_, e⟩ | ⟨h1, _⟩
  · exact e
  · exact absurd rfl h1
theorem err_iface {w : World} {c : Int} {ps : List (Int × Int)} {v : Value} (h : IsErr w (.iface 27 (.int .i64 c)) ps v) : ∃ T u, v = .iface T u := by
  rcases ps with _ | ⟨p, ps⟩
  · exact ⟨_, _, h⟩
  · obtain ⟨b, u, e, _⟩ := h
    exact ⟨_, _, e⟩

set_option maxRecDepth 100000 in
set_option maxHeartbeats 16000000 in
theorem wlines_calls (s : ByteArray) (k : Nat) (hk : k ≤ 255) (w : World) (hs : s.size ≤ 281474976710656) (hT : F1.HasPow w) (hH : HasType w) :
    Calls Tryd.prog 3 #[.string s, .int .u8 (k : Int)] w fun e w' => e = .returned (.bool true) ∧ Below w.heap.size w w' := by
  have HH : Hid (∀ wx, Below w.heap.size w wx → HasType wx) := fun wx hx => hH.keep hx hH.pos
  obtain ⟨g0, hg0⟩ : ∃ g, w.heap.size = g := ⟨_, rfl⟩
  obtain ⟨W1, hW1⟩ : ∃ W1, w.alloc (.cells #[.int .i64 1, .int .i64 2, .iface 27 (.int .i64 7)] 49) = W1 := ⟨_, rfl⟩
  have HW1 : Hid (w.alloc (.cells #[.int .i64 1, .int .i64 2, .iface 27 (.int .i64 7)] 49) = W1) := hW1
  have n1 : W1.heap[g0]? = some (.cells #[.int .i64 1, .int .i64 2, .iface 27 (.int .i64 7)] 49) := by rw [← hW1, ← hg0]; exact heap_newG _ _
  have hb1 : Below w.heap.size w W1 := by rw [← hW1]; exact (Below.refl _ _).alloc (Nat.le_refl _) _
  have hie : IsErr W1 (.iface 27 (.int .i64 7)) [(1, 2)] (.iface 47 (.pointer (some ⟨g0, 0, none⟩))) := ⟨_, _, rfl, n1, rfl⟩
  have htx := F1.text_calls (Or.inr ⟨7, rfl⟩) [(1, 2)] _ W1 hie (HH.out W1 hb1) (F1.HasPow.keep hT hb1) (by intro p hp; simp at hp; subst hp; unfold F1.in64; decide) (by unfold F1.in64; decide)
  rw [litT_eq] at htx
  have HTX : Hid (Calls Tryd.prog 4 #[.iface 47 (.pointer (some ⟨g0, 0, none⟩))] W1 fun e w' => e = .returned (.string litT) ∧ Below W1.heap.size W1 w') := htx
  have HB1 : Hid (Below w.heap.size w W1) := hb1
  unfold litT at HTX
  clear hW1 n1 hb1 hie htx hT hH
  go_enter Tryd.func3, Tryd.ntmps3
  go_wp2_with fail
  refine (at_some 1 2 27 (.int .i64 7) w).mono ?_
  rintro e y1 ⟨rfl, rfl⟩
  rw [HW1.out]
  try rw [hg0]
  go_wp2_with fail
  refine HTX.out.mono ?_
  rintro e y2 ⟨rfl, hy2⟩
  have HY2 : Hid (Below w.heap.size w y2) := btrG HB1.out hy2
  clear hy2 HTX
  by_cases hlong : 100000 < s.size
  · have j1 : decide ((s.size : Int) > 100000) = true := by simp; omega
    clear hlong
    go_wp2
    go_ret
    exact ⟨rfl, HY2.out⟩
  · have j1 : decide ((s.size : Int) > 100000) = false := by simp; omega
    have hs2 : s.size ≤ 100000 := by omega
    clear hlong
    go_wp2_with fail
    go_loopw [5, 21] (fun ov iv wr => ∃ (j : Nat) (u : ByteArray), j ≤ k ∧ ov = .string u ∧ iv = .int .u8 j ∧ Hid (bs u = remL j) ∧ Hid (Below w.heap.size w wr)) (fun _ iv _ => k - (intOf iv).toNat)
    case atStart => exact ⟨0, _, Nat.zero_le _, rfl, rfl, rfl, HY2⟩
    case round =>
      obtain ⟨j, u, hj, rfl, rfl, HU, HWR⟩ := hrel
      have hu : u.size ≤ 765 := by rw [← bs_len, HU.out, remL_len]; omega
      rcases Nat.lt_or_eq_of_le hj with h1 | h1
      · have i1 : decide ((j : Int) < (k : Int)) = true := by simp; omega
        have i2 : IntKind.u8.wrap ((j : Int) + 1) = (j : Int) + 1 := by rw [IntKind.wrap_u8]; omega
        have HN : Hid (bs (u ++ ⟨#[35, 32, 10]⟩) = remL (j + 1)) := by
          show _ = _
          rw [bs_addL, HU.out, remL_more]
          rfl
        go_wp2_with fail
        go_roundw
        case rel => exact ⟨j + 1, _, by omega, rfl, by rw [show (j : Int) + 1 = ((j + 1 : Nat) : Int) by omega], HN, HWR⟩
        case measure => simp only [intOf]; omega
      · have i1 : decide ((j : Int) < (k : Int)) = false := by simp; omega
        subst h1
        have HPA : Hid (Calls Tryd.prog 6 #[.string s] wr (PsA (bs s) wr)) := parse_calls s wr (by omega)
        go_wp2_with fail
        refine HPA.out.mono ?_
        rintro e y3 ⟨v, ao, ac, rfl, htd, hy3, hown⟩
        obtain ⟨E, hE⟩ : ∃ E, psE (bs s) = E := ⟨_, rfl⟩
        obtain ⟨E2, hE2⟩ : ∃ E, psE (remL j ++ bs s) = E := ⟨_, rfl⟩
        have htwo := two_of (k := j) (t := bs s) (by rw [bs_len]; exact hs2) hk
        have hgr := (ps_rem j (t := bs s) (by rw [bs_len]; exact hs2) hk).1
        rw [hE, hE2] at htwo
        obtain ⟨n, xs, hG⟩ : ∃ n xs, psG (bs s) = (n, xs) := ⟨_, _, rfl⟩
        rw [hG] at hgr
        rw [hE] at htd
        rw [hG] at hown ⊢
        simp only at hown ⊢
        have HTWO : Hid (TwoE j E E2) := htwo
        have HPS : Hid (bs (u ++ s) = remL j ++ bs s ∧ psE (remL j ++ bs s) = E2 ∧ psG (remL j ++ bs s) = (n, xs)) := ⟨by rw [bs_addL, HU.out], hE2, hgr⟩
        have hA := arcs_of hown
        have HXL : Hid (xs.length ≤ maxLen) := own_lenL hown
        obtain ⟨z1, hz1⟩ : ∃ z1, y3.heap.size = z1 := ⟨_, rfl⟩
        obtain ⟨W3, hW3⟩ : ∃ W3, y3.alloc (.cells #[.int .i64 (n : Int), .slice ao xs.length ac] 30) = W3 := ⟨_, rfl⟩
        have HW3 : Hid (y3.alloc (.cells #[.int .i64 (n : Int), .slice ao xs.length ac] 30) = W3) := hW3
        have m3 : W3.heap[z1]? = some (.cells #[.int .i64 (n : Int), .slice ao xs.length ac] 30) := by rw [← hW3, ← hz1]; exact heap_newG _ _
        have hb3 : Below y3.heap.size y3 W3 := by rw [← hW3]; exact (Below.refl _ _).alloc (Nat.le_refl _) _
        have HK3 : Hid (∀ wx, Below W3.heap.size W3 wx → wx.cell? ⟨z1, 0, none⟩ = some (.int .i64 (n : Int)) ∧ wx.cell? ⟨z1, 1, none⟩ = some (.slice ao xs.length ac) ∧ HasArcs wx (.slice ao xs.length ac) xs ∧ IsTold wx E v ∧ Below w.heap.size w wx) := fun wx hx => by
          have m := (hx.block _ (Array.getElem?_eq_some_iff.1 m3).1).trans m3
          have h2 := btrG hb3 hx
          exact ⟨by simp [World.cell?, m], by simp [World.cell?, m], hA.keep h2, htd.keep (Below.keeps h2), btrG (btrG HWR.out hy3) h2⟩
        obtain ⟨u2, hu2⟩ : ∃ x, u ++ s = x := ⟨_, rfl⟩
        have HU2 : Hid (u ++ s = u2) := hu2
        rw [hu2] at HPS
        have hus : u2.size ≤ 281474976710656 := by
          have h5 := congrArg List.length HPS.out.1
          rw [bs_len, List.length_append, remL_len, bs_len] at h5
          omega
        have HPB : Hid (Calls Tryd.prog 6 #[.string u2] W3 (PsA (bs u2) W3)) := parse_calls u2 W3 hus
        clear hE hE2 hG htd hown hA hW3 m3 hb3 hy3 HPA htwo hgr hu2 hus
        go_upto_region 11 with fail
        rw [HW3.out]
        try rw [hz1]
        go_wp2_with fail
        rw [HU2.out]
        refine HPB.out.mono ?_
        rintro e y4 ⟨v2, bo, bc, rfl, htd, hy4, hown⟩
        rw [HPS.out.1, HPS.out.2.1] at htd
        rw [HPS.out.1, HPS.out.2.2] at hown
        rw [HPS.out.1, HPS.out.2.2]
        simp only at hown ⊢
        have hA := arcs_of hown
        obtain ⟨z2, hz2⟩ : ∃ z, y4.heap.size = z := ⟨_, rfl⟩
        obtain ⟨W5, hW5⟩ : ∃ W5, y4.alloc (.cells #[.int .i64 (n : Int), .slice bo xs.length bc] 30) = W5 := ⟨_, rfl⟩
        have HW5 : Hid (y4.alloc (.cells #[.int .i64 (n : Int), .slice bo xs.length bc] 30) = W5) := hW5
        have m5 : W5.heap[z2]? = some (.cells #[.int .i64 (n : Int), .slice bo xs.length bc] 30) := by rw [← hW5, ← hz2]; exact heap_newG _ _
        have hb5 : Below y4.heap.size y4 W5 := by rw [← hW5]; exact (Below.refl _ _).alloc (Nat.le_refl _) _
        have HK5 : Hid (∀ wx, Below W5.heap.size W5 wx → (fun w' : World => w'.cell? ⟨z1, 0, none⟩ = some (.int .i64 (n : Int)) ∧ w'.cell? ⟨z1, 1, none⟩ = some (.slice ao xs.length ac) ∧ w'.cell? ⟨z2, 0, none⟩ = some (.int .i64 (n : Int)) ∧ w'.cell? ⟨z2, 1, none⟩ = some (.slice bo xs.length bc) ∧ Hid (Below W5.heap.size W5 w')) wx ∧ HasArcs wx (.slice ao xs.length ac) xs ∧ HasArcs wx (.slice bo xs.length bc) xs ∧ IsTold wx E v ∧ IsTold wx E2 v2 ∧ Below w.heap.size w wx) := fun wx hx => by
          have m := (hx.block _ (Array.getElem?_eq_some_iff.1 m5).1).trans m5
          have h2 := btrG hb5 hx
          obtain ⟨q0, q1, q2, q3, q4⟩ := HK3.out wx (btrG hy4 h2)
          exact ⟨⟨q0, q1, by simp [World.cell?, m], by simp [World.cell?, m], (hx : Hid _)⟩, q2, hA.keep h2, q3, htd.keep (Below.keeps h2), q4⟩
        have HSM : Hid (∀ wx, (fun w' : World => w'.cell? ⟨z1, 0, none⟩ = some (.int .i64 (n : Int)) ∧ w'.cell? ⟨z1, 1, none⟩ = some (.slice ao xs.length ac) ∧ w'.cell? ⟨z2, 0, none⟩ = some (.int .i64 (n : Int)) ∧ w'.cell? ⟨z2, 1, none⟩ = some (.slice bo xs.length bc) ∧ Hid (Below W5.heap.size W5 w')) wx → Calls Tryd.prog 7 #[.agg #[.int .i64 (n : Int), .slice ao xs.length ac], .agg #[.int .i64 (n : Int), .slice bo xs.length bc]] wx fun e w' => e = .returned (.bool true) ∧ Below wx.heap.size wx w' ∧ (fun w' : World => w'.cell? ⟨z1, 0, none⟩ = some (.int .i64 (n : Int)) ∧ w'.cell? ⟨z1, 1, none⟩ = some (.slice ao xs.length ac) ∧ w'.cell? ⟨z2, 0, none⟩ = some (.int .i64 (n : Int)) ∧ w'.cell? ⟨z2, 1, none⟩ = some (.slice bo xs.length bc) ∧ Hid (Below W5.heap.size W5 w')) w') := fun wx hSx => by
          have hx := hSx.2.2.2.2.out
          obtain ⟨_, q1, q2, _, _, _⟩ := HK5.out wx hx
          refine (same_yes n _ _ _ _ _ _ xs wx q1 q2 HXL.out).mono ?_
          rintro e w' ⟨rfl, hb⟩
          exact ⟨rfl, hb, (HK5.out w' (btrG hx hb)).1⟩
        clear htd hown hA hW5 m5 hb5 hy4 HPB
        rcases HTWO.out with ⟨rfl, rfl⟩ | ⟨c, l, hc, hl0, hl1, rfl, rfl⟩
        · obtain rfl := told_nilL (HK5.out W5 (Below.refl _ _)).2.2.2.1
          obtain rfl := told_nilL (HK5.out W5 (Below.refl _ _)).2.2.2.2.1
          go_upto_region 12 with fail
          rw [HW5.out]
          try rw [hz2]
          refine wp_region_M (S := (fun w' : World => w'.cell? ⟨z1, 0, none⟩ = some (.int .i64 (n : Int)) ∧ w'.cell? ⟨z1, 1, none⟩ = some (.slice ao xs.length ac) ∧ w'.cell? ⟨z2, 0, none⟩ = some (.int .i64 (n : Int)) ∧ w'.cell? ⟨z2, 1, none⟩ = some (.slice bo xs.length bc) ∧ Hid (Below W5.heap.size W5 w'))) (by kernel_rfl) (HK5.out _ (Below.refl _ _).drew).1 ?_
          refine wpAnyM_take (i := 0) (oi := { dst := Option.some 38, op := Op.load 30 (Operand.tmp 6), type := 30, pos := "top02.go:28", after := #[], guard := Option.none }) (v := ?va1z0q) rfl (by kernel_rfl) (by kernel_rfl) (by kernel_rfl) (fun _ _ _ h => h) (YieldsM.of_if (Or.inl ⟨by rfl, ?ha1z0q⟩)) ?ra1z0q
          case ha1z0q => ((intro wz hSw; (try dsimp only at hSw); go_simp); try (with_reducible rfl))
          try simp only [Act.put, List.setIfInBounds_toArray, List.set_cons_zero, List.set_cons_succ]
          refine wpAnyM_take (i := 1) (oi := { dst := Option.some 39, op := Op.load 30 (Operand.tmp 8), type := 30, pos := "top02.go:28", after := #[], guard := Option.none }) (v := ?va2z1q) rfl (by kernel_rfl) (by kernel_rfl) (by kernel_rfl) (fun _ _ _ h => h) (YieldsM.of_if (Or.inl ⟨by rfl, ?ha2z1q⟩)) ?ra2z1q
          case ha2z1q => ((intro wz hSw; (try dsimp only at hSw); go_simp); try (with_reducible rfl))
          try simp only [Act.put, List.setIfInBounds_toArray, List.set_cons_zero, List.set_cons_succ]
          refine wpAnyM_take (i := 2) (oi := { dst := Option.some 40, op := Op.call { callee := Callee.value (Operand.func 7), args := #[Operand.tmp 38, Operand.tmp 39], argTypes := #[30, 30] }, type := 4, pos := "top02.go:28", after := #[{ on := 0, ground := Ground.data }, { on := 1, ground := Ground.data }], guard := Option.none }) (v := (.bool true)) rfl (by kernel_rfl) (by kernel_rfl) (by kernel_rfl) (fun _ _ _ h => h) (YieldsM.of_call (f := 7) (by rfl) (fun _ _ => by kernel_rfl) (HSM.out)) ?_
          try simp only [Act.put, List.setIfInBounds_toArray, List.set_cons_zero, List.set_cons_succ]
          refine wpAnyM_take (i := 3) (oi := { dst := Option.some 41, op := Op.unOp UnOp.not 4 (Operand.tmp 40), type := 4, pos := "top02.go:28", after := #[{ on := 2, ground := Ground.data }], guard := Option.none }) (v := ?vb3z3q) rfl (by kernel_rfl) (by kernel_rfl) (by kernel_rfl) (fun _ _ _ h => h) (YieldsM.of_if (Or.inl ⟨by rfl, ?hb3z3q⟩)) ?rb3z3q
          case hb3z3q => ((intro wz hSw; (try dsimp only at hSw); go_simp); try (with_reducible rfl))
          try simp only [Act.put, List.setIfInBounds_toArray, List.set_cons_zero, List.set_cons_succ]
          refine wpAnyM_take (i := 4) (oi := { dst := Option.some 42, op := Op.move (Operand.tmp 41), type := 4, pos := "top02.go:28", after := #[{ on := 3, ground := Ground.data }, { on := 2, ground := Ground.chain }], guard := Option.none }) (v := ?vb4z4q) rfl (by kernel_rfl) (by kernel_rfl) (by kernel_rfl) (fun _ _ _ h => h) (YieldsM.of_if (Or.inl ⟨by rfl, ?hb4z4q⟩)) ?rb4z4q
          case hb4z4q => ((intro wz hSw; (try dsimp only at hSw); go_simp); try (with_reducible rfl))
          try simp only [Act.put, List.setIfInBounds_toArray, List.set_cons_zero, List.set_cons_succ]
          refine wpAnyM_take (i := 5) (oi := { dst := Option.some 43, op := Op.move (Operand.tmp 7), type := 24, pos := "top02.go:28", after := #[{ on := 4, ground := Ground.guard }], guard := Option.some (4, Bool.false) }) (v := ?vb5z5q) rfl (by kernel_rfl) (by kernel_rfl) (by kernel_rfl) (fun _ _ _ h => h) (YieldsM.of_if (Or.inl ⟨by rfl, ?hb5z5q⟩)) ?rb5z5q
          case hb5z5q => ((intro wz hSw; (try dsimp only at hSw); go_simp); try (with_reducible rfl))
          try simp only [Act.put, List.setIfInBounds_toArray, List.set_cons_zero, List.set_cons_succ]
          refine wpAnyM_take (i := 6) (oi := { dst := Option.some 44, op := Op.binOp BinOp.eql 24 (Operand.tmp 43) (Operand.const Value.nilIface) 24, type := 4, pos := "top02.go:28", after := #[{ on := 5, ground := Ground.data }, { on := 4, ground := Ground.guard }], guard := Option.some (4, Bool.false) }) (v := ?vb6z6q) rfl (by kernel_rfl) (by kernel_rfl) (by kernel_rfl) (fun _ _ _ h => h) (YieldsM.of_if (Or.inl ⟨by rfl, ?hb6z6q⟩)) ?rb6z6q
          case hb6z6q => ((intro wz hSw; (try dsimp only at hSw); go_simp); try (with_reducible rfl))
          try simp only [Act.put, List.setIfInBounds_toArray, List.set_cons_zero, List.set_cons_succ]
          refine wpAnyM_take (i := 7) (oi := { dst := Option.some 45, op := Op.move (Operand.tmp 9), type := 24, pos := "top02.go:28", after := #[{ on := 4, ground := Ground.guard }], guard := Option.some (4, Bool.false) }) (v := ?vb7z7q) rfl (by kernel_rfl) (by kernel_rfl) (by kernel_rfl) (fun _ _ _ h => h) (YieldsM.of_if (Or.inl ⟨by rfl, ?hb7z7q⟩)) ?rb7z7q
          case hb7z7q => ((intro wz hSw; (try dsimp only at hSw); go_simp); try (with_reducible rfl))
          try simp only [Act.put, List.setIfInBounds_toArray, List.set_cons_zero, List.set_cons_succ]
          refine wpAnyM_take (i := 8) (oi := { dst := Option.some 46, op := Op.binOp BinOp.eql 24 (Operand.tmp 45) (Operand.const Value.nilIface) 24, type := 4, pos := "top02.go:28", after := #[{ on := 7, ground := Ground.data }, { on := 4, ground := Ground.guard }], guard := Option.some (4, Bool.false) }) (v := ?vb8z8q) rfl (by kernel_rfl) (by kernel_rfl) (by kernel_rfl) (fun _ _ _ h => h) (YieldsM.of_if (Or.inl ⟨by rfl, ?hb8z8q⟩)) ?rb8z8q
          case hb8z8q => ((intro wz hSw; (try dsimp only at hSw); go_simp); try (with_reducible rfl))
          try simp only [Act.put, List.setIfInBounds_toArray, List.set_cons_zero, List.set_cons_succ]
          refine wpAnyM_take (i := 9) (oi := { dst := Option.some 47, op := Op.binOp BinOp.neq 4 (Operand.tmp 44) (Operand.tmp 46) 4, type := 4, pos := "top02.go:28", after := #[{ on := 6, ground := Ground.data }, { on := 8, ground := Ground.data }, { on := 4, ground := Ground.guard }], guard := Option.some (4, Bool.false) }) (v := ?vb9z9q) rfl (by kernel_rfl) (by kernel_rfl) (by kernel_rfl) (fun _ _ _ h => h) (YieldsM.of_if (Or.inl ⟨by rfl, ?hb9z9q⟩)) ?rb9z9q
          case hb9z9q => ((intro wz hSw; (try dsimp only at hSw); go_simp); try (with_reducible rfl))
          try simp only [Act.put, List.setIfInBounds_toArray, List.set_cons_zero, List.set_cons_succ]
          refine wpAnyM_take (i := 10) (oi := { dst := Option.some 48, op := Op.pick (Operand.tmp 42) (Operand.const (Value.bool Bool.true)) (Operand.tmp 47), type := 4, pos := "top02.go:28", after := #[{ on := 4, ground := Ground.data }, { on := 9, ground := Ground.data }], guard := Option.none }) (v := ?vb10z10q) rfl (by kernel_rfl) (by kernel_rfl) (by kernel_rfl) (fun _ _ _ h => h) (YieldsM.of_if (Or.inl ⟨by rfl, ?hb10z10q⟩)) ?rb10z10q
          case hb10z10q => ((intro wz hSw; (try dsimp only at hSw); go_simp); try (with_reducible rfl))
          try simp only [Act.put, List.setIfInBounds_toArray, List.set_cons_zero, List.set_cons_succ]
          refine wpAnyM_done (by kernel_rfl) ?_ _
          intro u9 hg9 hS9
          have H9 : Hid (Below W5.heap.size W5 u9) := hS9.2.2.2.2.out
          clear hS9 hg9 HSM
          have HPL : Hid (Calls Tryd.prog 8 #[.nilIface] u9 fun e w' => ∃ pl, e = .returned pl ∧ w'.ownsRow u9.heap.size 37 2 pl 0 [] ∧ Below u9.heap.size u9 w') := F1.places_gen (Or.inl rfl) [] .nilIface u9 rfl (HH.out u9 (HK5.out u9 H9.out).2.2.2.2.2)
          have i3 : IntKind.i64.wrap (j : Int) = (j : Int) := by rw [IntKind.wrap_i64] <;> omega
          go_wp2_with fail
          refine HPL.out.mono ?_
          rintro e y6 ⟨pl, rfl, hpl, hy6⟩
          obtain ⟨po, pc, rfl⟩ := slice_ofG hpl
          have H10 : Hid (Below W5.heap.size W5 y6) := btrG H9.out hy6
          clear hpl hy6 HPL
          go_wp2_with fail
          go_loopw [54, 10] (fun iv bv wx => iv = .int .i64 0 ∧ bv = .int .i64 (j : Int) ∧ Hid (Below W5.heap.size W5 wx)) (fun _ _ _ => 0)
          case atStart => exact ⟨rfl, rfl, H10⟩
          case round =>
            obtain ⟨rfl, rfl, HX⟩ := hrel
            have i4 : decide ((0 : Int) < ((0 : Nat) : Int)) = false := rfl
            have HSF : Hid (Calls Tryd.prog 10 #[.nilIface, .int .i64 1, .int .i64 (j : Int)] wr fun e w' => ∃ v', e = .returned v' ∧ IsErr w' .nilIface [] v' ∧ Below wr.heap.size wr w') := F1.shift_calls (Or.inl rfl) [] .nilIface 1 (j : Int) wr rfl (HH.out wr (HK5.out wr HX.out).2.2.2.2.2)
            go_wp2_with fail
            refine HSF.out.mono ?_
            rintro e y7 ⟨v7, rfl, h7, hy7⟩
            have h7' : v7 = .nilIface := h7
            subst h7'
            have H7 : Hid (Below W5.heap.size W5 y7) := btrG HX.out hy7
            have HSS : Hid (Calls Tryd.prog 9 #[.nilIface, .nilIface] y7 fun e w' => e = .returned (.bool true) ∧ Below y7.heap.size y7 w') := F1.same_calls (Or.inl rfl) (Or.inl rfl) [] [] .nilIface .nilIface y7 rfl rfl (HH.out y7 (HK5.out y7 H7.out).2.2.2.2.2)
            clear h7 hy7 HSF
            go_wp2_with fail
            refine HSS.out.mono ?_
            rintro e y8 ⟨rfl, hy8⟩
            have H8 : Hid (Below w.heap.size w y8) := (HK5.out y8 (btrG H7.out hy8)).2.2.2.2.2
            clear hy8 HSS
            go_wp2
            go_ret
            exact ⟨rfl, H8.out⟩
        · obtain ⟨T1, x1, hv1⟩ := err_iface (told_err hc (HK5.out W5 (Below.refl _ _)).2.2.2.1)
          obtain ⟨T2, x2, hv2⟩ := err_iface (told_err hc (HK5.out W5 (Below.refl _ _)).2.2.2.2.1)
          subst hv1
          subst hv2
          go_upto_region 12 with fail
          rw [HW5.out]
          try rw [hz2]
          refine wp_region_M (S := (fun w' : World => w'.cell? ⟨z1, 0, none⟩ = some (.int .i64 (n : Int)) ∧ w'.cell? ⟨z1, 1, none⟩ = some (.slice ao xs.length ac) ∧ w'.cell? ⟨z2, 0, none⟩ = some (.int .i64 (n : Int)) ∧ w'.cell? ⟨z2, 1, none⟩ = some (.slice bo xs.length bc) ∧ Hid (Below W5.heap.size W5 w'))) (by kernel_rfl) (HK5.out _ (Below.refl _ _).drew).1 ?_
          refine wpAnyM_take (i := 0) (oi := { dst := Option.some 38, op := Op.load 30 (Operand.tmp 6), type := 30, pos := "top02.go:28", after := #[], guard := Option.none }) (v := ?va1z0qq) rfl (by kernel_rfl) (by kernel_rfl) (by kernel_rfl) (fun _ _ _ h => h) (YieldsM.of_if (Or.inl ⟨by rfl, ?ha1z0qq⟩)) ?ra1z0qq
          case ha1z0qq => ((intro wz hSw; (try dsimp only at hSw); go_simp); try (with_reducible rfl))
          try simp only [Act.put, List.setIfInBounds_toArray, List.set_cons_zero, List.set_cons_succ]
          refine wpAnyM_take (i := 1) (oi := { dst := Option.some 39, op := Op.load 30 (Operand.tmp 8), type := 30, pos := "top02.go:28", after := #[], guard := Option.none }) (v := ?va2z1qq) rfl (by kernel_rfl) (by kernel_rfl) (by kernel_rfl) (fun _ _ _ h => h) (YieldsM.of_if (Or.inl ⟨by rfl, ?ha2z1qq⟩)) ?ra2z1qq
          case ha2z1qq => ((intro wz hSw; (try dsimp only at hSw); go_simp); try (with_reducible rfl))
          try simp only [Act.put, List.setIfInBounds_toArray, List.set_cons_zero, List.set_cons_succ]
          refine wpAnyM_take (i := 2) (oi := { dst := Option.some 40, op := Op.call { callee := Callee.value (Operand.func 7), args := #[Operand.tmp 38, Operand.tmp 39], argTypes := #[30, 30] }, type := 4, pos := "top02.go:28", after := #[{ on := 0, ground := Ground.data }, { on := 1, ground := Ground.data }], guard := Option.none }) (v := (.bool true)) rfl (by kernel_rfl) (by kernel_rfl) (by kernel_rfl) (fun _ _ _ h => h) (YieldsM.of_call (f := 7) (by rfl) (fun _ _ => by kernel_rfl) (HSM.out)) ?_
          try simp only [Act.put, List.setIfInBounds_toArray, List.set_cons_zero, List.set_cons_succ]
          refine wpAnyM_take (i := 3) (oi := { dst := Option.some 41, op := Op.unOp UnOp.not 4 (Operand.tmp 40), type := 4, pos := "top02.go:28", after := #[{ on := 2, ground := Ground.data }], guard := Option.none }) (v := ?vb3z3qq) rfl (by kernel_rfl) (by kernel_rfl) (by kernel_rfl) (fun _ _ _ h => h) (YieldsM.of_if (Or.inl ⟨by rfl, ?hb3z3qq⟩)) ?rb3z3qq
          case hb3z3qq => ((intro wz hSw; (try dsimp only at hSw); go_simp); try (with_reducible rfl))
          try simp only [Act.put, List.setIfInBounds_toArray, List.set_cons_zero, List.set_cons_succ]
          refine wpAnyM_take (i := 4) (oi := { dst := Option.some 42, op := Op.move (Operand.tmp 41), type := 4, pos := "top02.go:28", after := #[{ on := 3, ground := Ground.data }, { on := 2, ground := Ground.chain }], guard := Option.none }) (v := ?vb4z4qq) rfl (by kernel_rfl) (by kernel_rfl) (by kernel_rfl) (fun _ _ _ h => h) (YieldsM.of_if (Or.inl ⟨by rfl, ?hb4z4qq⟩)) ?rb4z4qq
          case hb4z4qq => ((intro wz hSw; (try dsimp only at hSw); go_simp); try (with_reducible rfl))
          try simp only [Act.put, List.setIfInBounds_toArray, List.set_cons_zero, List.set_cons_succ]
          refine wpAnyM_take (i := 5) (oi := { dst := Option.some 43, op := Op.move (Operand.tmp 7), type := 24, pos := "top02.go:28", after := #[{ on := 4, ground := Ground.guard }], guard := Option.some (4, Bool.false) }) (v := ?vb5z5qq) rfl (by kernel_rfl) (by kernel_rfl) (by kernel_rfl) (fun _ _ _ h => h) (YieldsM.of_if (Or.inl ⟨by rfl, ?hb5z5qq⟩)) ?rb5z5qq
          case hb5z5qq => ((intro wz hSw; (try dsimp only at hSw); go_simp); try (with_reducible rfl))
          try simp only [Act.put, List.setIfInBounds_toArray, List.set_cons_zero, List.set_cons_succ]
          refine wpAnyM_take (i := 6) (oi := { dst := Option.some 44, op := Op.binOp BinOp.eql 24 (Operand.tmp 43) (Operand.const Value.nilIface) 24, type := 4, pos := "top02.go:28", after := #[{ on := 5, ground := Ground.data }, { on := 4, ground := Ground.guard }], guard := Option.some (4, Bool.false) }) (v := ?vb6z6qq) rfl (by kernel_rfl) (by kernel_rfl) (by kernel_rfl) (fun _ _ _ h => h) (YieldsM.of_if (Or.inl ⟨by rfl, ?hb6z6qq⟩)) ?rb6z6qq
          case hb6z6qq => ((intro wz hSw; (try dsimp only at hSw); go_simp); try (with_reducible rfl))
          try simp only [Act.put, List.setIfInBounds_toArray, List.set_cons_zero, List.set_cons_succ]
          refine wpAnyM_take (i := 7) (oi := { dst := Option.some 45, op := Op.move (Operand.tmp 9), type := 24, pos := "top02.go:28", after := #[{ on := 4, ground := Ground.guard }], guard := Option.some (4, Bool.false) }) (v := ?vb7z7qq) rfl (by kernel_rfl) (by kernel_rfl) (by kernel_rfl) (fun _ _ _ h => h) (YieldsM.of_if (Or.inl ⟨by rfl, ?hb7z7qq⟩)) ?rb7z7qq
          case hb7z7qq => ((intro wz hSw; (try dsimp only at hSw); go_simp); try (with_reducible rfl))
          try simp only [Act.put, List.setIfInBounds_toArray, List.set_cons_zero, List.set_cons_succ]
          refine wpAnyM_take (i := 8) (oi := { dst := Option.some 46, op := Op.binOp BinOp.eql 24 (Operand.tmp 45) (Operand.const Value.nilIface) 24, type := 4, pos := "top02.go:28", after := #[{ on := 7, ground := Ground.data }, { on := 4, ground := Ground.guard }], guard := Option.some (4, Bool.false) }) (v := ?vb8z8qq) rfl (by kernel_rfl) (by kernel_rfl) (by kernel_rfl) (fun _ _ _ h => h) (YieldsM.of_if (Or.inl ⟨by rfl, ?hb8z8qq⟩)) ?rb8z8qq
          case hb8z8qq => ((intro wz hSw; (try dsimp only at hSw); go_simp); try (with_reducible rfl))
          try simp only [Act.put, List.setIfInBounds_toArray, List.set_cons_zero, List.set_cons_succ]
          refine wpAnyM_take (i := 9) (oi := { dst := Option.some 47, op := Op.binOp BinOp.neq 4 (Operand.tmp 44) (Operand.tmp 46) 4, type := 4, pos := "top02.go:28", after := #[{ on := 6, ground := Ground.data }, { on := 8, ground := Ground.data }, { on := 4, ground := Ground.guard }], guard := Option.some (4, Bool.false) }) (v := ?vb9z9qq) rfl (by kernel_rfl) (by kernel_rfl) (by kernel_rfl) (fun _ _ _ h => h) (YieldsM.of_if (Or.inl ⟨by rfl, ?hb9z9qq⟩)) ?rb9z9qq
          case hb9z9qq => ((intro wz hSw; (try dsimp only at hSw); go_simp); try (with_reducible rfl))
          try simp only [Act.put, List.setIfInBounds_toArray, List.set_cons_zero, List.set_cons_succ]
          refine wpAnyM_take (i := 10) (oi := { dst := Option.some 48, op := Op.pick (Operand.tmp 42) (Operand.const (Value.bool Bool.true)) (Operand.tmp 47), type := 4, pos := "top02.go:28", after := #[{ on := 4, ground := Ground.data }, { on := 9, ground := Ground.data }], guard := Option.none }) (v := ?vb10z10qq) rfl (by kernel_rfl) (by kernel_rfl) (by kernel_rfl) (fun _ _ _ h => h) (YieldsM.of_if (Or.inl ⟨by rfl, ?hb10z10qq⟩)) ?rb10z10qq
          case hb10z10qq => ((intro wz hSw; (try dsimp only at hSw); go_simp); try (with_reducible rfl))
          try simp only [Act.put, List.setIfInBounds_toArray, List.set_cons_zero, List.set_cons_succ]
          refine wpAnyM_done (by kernel_rfl) ?_ _
          intro u9 hg9 hS9
          have H9 : Hid (Below W5.heap.size W5 u9) := hS9.2.2.2.2.out
          clear hS9 hg9 HSM
          have HER : Hid (∀ wx, Below W5.heap.size W5 wx → IsErr wx (.iface 27 (.int .i64 c)) [(1, l)] (.iface T1 x1) ∧ IsErr wx (.iface 27 (.int .i64 c)) [(1, if l = 0 then 0 else l + j)] (.iface T2 x2) ∧ HasType wx ∧ Below w.heap.size w wx) := fun wx hx => by
            obtain ⟨_, _, _, q1, q2, q3⟩ := HK5.out wx hx
            exact ⟨told_err hc q1, told_err hc q2, HH.out wx q3, q3⟩
          have HLC : Hid (c ≠ 0 ∧ 0 ≤ l ∧ l ≤ 2000000 ∧ j ≤ 255) := ⟨hc, hl0, hl1, hk⟩
          have HPL : Hid (Calls Tryd.prog 8 #[.iface T1 x1] u9 fun e w' => ∃ pl, e = .returned pl ∧ w'.ownsRow u9.heap.size 37 2 pl 1 [.int .i64 1, .int .i64 l] ∧ Below u9.heap.size u9 w') := F1.places_gen (Or.inr ⟨c, rfl⟩) [(1, l)] (.iface T1 x1) u9 (HER.out u9 H9.out).1 (HER.out u9 H9.out).2.2.1
          have i3 : IntKind.i64.wrap (j : Int) = (j : Int) := by rw [IntKind.wrap_i64] <;> omega
          clear hc hl0 hl1
          go_wp2_with fail
          refine HPL.out.mono ?_
          rintro e y6 ⟨pl, rfl, hpl, hy6⟩
          obtain ⟨po, pc, rfl⟩ := slice_ofG hpl
          have H10 : Hid (Below W5.heap.size W5 y6) := btrG H9.out hy6
          have HPO : Hid (∀ wx, Below y6.heap.size y6 wx → ∃ g, po = some ⟨g, 0, none⟩ ∧ wx.cell? ⟨g, 0, none⟩ = some (.int .i64 1) ∧ wx.cell? ⟨g, 1, none⟩ = some (.int .i64 l)) := fun wx hx => by
            obtain ⟨g, cg, e, _, hgl⟩ := hpl.form (by omega)
            injection e with e1 _ _
            refine ⟨g, e1, ?_, ?_⟩
            · subst e1
              exact (hx.cell (p := ⟨g, 0, none⟩) hgl).trans (hpl.cellAt 0 (by omega))
            · subst e1
              exact (hx.cell (p := ⟨g, 1, none⟩) hgl).trans (hpl.cellAt 1 (by omega))
          clear hpl hy6 HPL
          go_wp2_with fail
          go_loopw [54, 10] (fun iv bv wx => ∃ (i : Nat) (b : Int), i ≤ 1 ∧ iv = .int .i64 i ∧ bv = .int .i64 b ∧ Hid (b = if i = 0 then (j : Int) else if l = 0 then 0 else (j : Int)) ∧ Hid (Below y6.heap.size y6 wx)) (fun iv _ _ => 1 - (intOf iv).toNat)
          case atStart => exact ⟨0, (j : Int), Nat.zero_le _, rfl, rfl, rfl, Below.refl _ _⟩
          case round =>
            obtain ⟨i, b, hi, rfl, rfl, HBV, HX⟩ := hrel
            rcases Nat.lt_or_eq_of_le hi with h2 | h2
            · obtain ⟨g, rfl, e0, e1⟩ := HPO.out wr HX.out
              have i0 : i = 0 := by omega
              subst i0
              have i4 : decide (((0 : Nat) : Int) < 1) = true := rfl
              obtain ⟨W7, hW7⟩ : ∃ W, wr.alloc (.cells #[.int .i64 1, .int .i64 l] 37) = W := ⟨_, rfl⟩
              have HW7 : Hid (wr.alloc (.cells #[.int .i64 1, .int .i64 l] 37) = W7) := hW7
              obtain ⟨g7, hg7⟩ : ∃ g, wr.heap.size = g := ⟨_, rfl⟩
              have m7 : W7.heap[g7]? = some (.cells #[.int .i64 1, .int .i64 l] 37) := by rw [← hW7, ← hg7]; exact heap_newG _ _
              have HB7 : Hid (Below y6.heap.size y6 W7) := by
                show Below _ _ _
                rw [← hW7]
                exact HX.out.alloc HX.out.size _
              have d1 : W7.cell? ⟨g7, 1, none⟩ = some (.int .i64 l) := by simp [World.cell?, m7]
              clear hW7 m7
              go_upto_region 18 with fail
              rw [HW7.out]
              try rw [hg7]
              by_cases hl : l = 0
              · have j5 : (l == 0) = true := by rw [beq_iff_eq]; exact hl
                have HN : Hid ((0 : Int) = if (0 + 1 : Nat) = 0 then (j : Int) else if l = 0 then 0 else (j : Int)) := by show _ = _; rw [if_neg (by omega), if_pos hl]
                clear hl
                go_wp2_with fail
                go_roundw
                case rel => exact ⟨0 + 1, 0, by omega, rfl, rfl, HN, HB7⟩
                case measure => decide
              · have j5 : (l == 0) = false := by rw [beq_eq_false_iff_ne]; exact hl
                have HN : Hid (b = if (0 + 1 : Nat) = 0 then (j : Int) else if l = 0 then 0 else (j : Int)) := by
                  have := HBV.out
                  rw [if_pos rfl] at this
                  show _ = _
                  rw [if_neg (by omega), if_neg hl]
                  exact this
                clear hl
                go_wp2_with fail
                go_roundw
                case rel => exact ⟨0 + 1, b, by omega, rfl, rfl, HN, HB7⟩
                case measure => decide
            · subst h2
              have i4 : decide (((1 : Nat) : Int) < 1) = false := rfl
              have hb : b = if l = 0 then 0 else (j : Int) := by
                have := HBV.out
                rw [if_neg (by decide)] at this
                exact this
              have hwx : Below W5.heap.size W5 wr := btrG H10.out HX.out
              have HWX : Hid (Below W5.heap.size W5 wr) := hwx
              have hmv : F1.moved 1 b (1, l) = (1, if l = 0 then 0 else l + j) := by
                obtain ⟨_, q0, q1, q2⟩ := HLC.out
                unfold F1.moved
                rw [if_pos rfl, hb]
                by_cases hl : l = 0
                · rw [if_pos hl, if_pos hl, hl]
                  show ((1 : Int), wrap64 (0 + 0)) = (1, 0)
                  rw [show wrap64 (0 + 0) = 0 by unfold wrap64; omega]
                · rw [if_neg hl, if_neg hl]
                  have : wrap64 (l + (j : Int)) = l + (j : Int) := by unfold wrap64; omega
                  rw [this]
              have hsf := F1.shift_calls (Or.inr ⟨c, rfl⟩) [(1, l)] (.iface T1 x1) 1 b wr (HER.out wr hwx).1 (HER.out wr hwx).2.2.1
              have e7 : (([(1, l)] : List (Int × Int)).take 64).map (F1.moved 1 b) = [(1, if l = 0 then 0 else l + j)] := by
                show [F1.moved 1 b (1, l)] = _
                rw [hmv]
              have e8 : F1.numTail (F1.codeOf (F1.cutTail (F1.strip (.iface 27 (.int .i64 c))) [(1, l)] 64)) = .iface 27 (.int .i64 c) := by
                show F1.numTail c = _
                unfold F1.numTail
                rw [if_neg HLC.out.1]
              rw [e7, e8] at hsf
              have HSF : Hid (Calls Tryd.prog 10 #[.iface T1 x1, .int .i64 1, .int .i64 b] wr fun e w' => ∃ v', e = .returned v' ∧ IsErr w' (.iface 27 (.int .i64 c)) [(1, if l = 0 then 0 else l + j)] v' ∧ Below wr.heap.size wr w') := hsf
              clear hb hmv hsf e7 e8 hwx
              go_wp2_with fail
              refine HSF.out.mono ?_
              rintro e y7 ⟨v7, rfl, h7, hy7⟩
              have h57 : Below W5.heap.size W5 y7 := btrG HWX.out hy7
              have H7 : Hid (Below W5.heap.size W5 y7) := h57
              have hss := F1.same_calls (Or.inr ⟨c, rfl⟩) (Or.inr ⟨c, rfl⟩) [(1, if l = 0 then 0 else l + j)] [(1, if l = 0 then 0 else l + j)] (.iface T2 x2) v7 y7 (HER.out y7 h57).2.1 h7 (HER.out y7 h57).2.2.1
              rw [F1.bothB_refl] at hss
              have HSS : Hid (Calls Tryd.prog 9 #[.iface T2 x2, v7] y7 fun e w' => e = .returned (.bool true) ∧ Below y7.heap.size y7 w') := hss
              clear h7 hy7 HSF hss h57
              go_wp2_with fail
              refine HSS.out.mono ?_
              rintro e y8 ⟨rfl, hy8⟩
              have H8 : Hid (Below w.heap.size w y8) := (HER.out y8 (btrG H7.out hy8)).2.2.2
              clear hy8 HSS
              go_wp2
              go_ret
              exact ⟨rfl, H8.out⟩
end Go.Proofs.YthgmhhlgjooeaaaDoor.Gt
