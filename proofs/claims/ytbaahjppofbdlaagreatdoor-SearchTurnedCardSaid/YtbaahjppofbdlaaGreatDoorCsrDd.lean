/- viaductref05.DocCheck where the lengths are right: the firsts fall, an arc is wrong, or nothing is. -/
import Derived.Test.YtbaahjppofbdlaaGreatDoorCsrDc
import Derived.Test.YtbaahjppofbdlaaGreatDoorCsrY
import Derived.Deep.DeepCutAuto
import Derived.Deep.CutBlock
namespace Go.Proofs.YtbaahjppofbdlaaGreatDoor
open Go.RowKit Go.Extern

attribute [local go_sem] Oper.semAt_some

set_option maxRecDepth 100000 in
set_option maxHeartbeats 4000000 in
theorem dc_f (n m : Nat) (F : List Int) (fb fof : Nat) (uo wo : Option Addr) (fc tc wc : Nat) (w : World) (hF : HasInts w (.slice (some ⟨fb, fof, none⟩) (n + 1) fc) F) (h0 : F[0]? = some 0) (hn : F[n]? = some (m : Int)) (hN : n ≤ 65536) (hM : m ≤ 262144)
    (k0 : Nat) (hk0 : k0 < n) (x y : Int) (hx : F[k0]? = some x) (hy : F[k0 + 1]? = some y) (hxy : y < x) (hmono : ∀ (u : Nat) (a b : Int), u < k0 → F[u]? = some a → F[u + 1]? = some b → a ≤ b) :
    Calls Tryz.prog 85 #[.agg #[.slice (some ⟨fb, fof, none⟩) (n + 1) fc, .slice uo m tc, .slice wo m wc]] w (DocAns w (14, [(3, (k0 : Int))])) := by
  obtain ⟨fb', fof', e, hl, hc⟩ := hF.cells (by omega)
  injection e with e
  injection e with e1 e2
  subst e1 e2
  have HLN : Hid (F.length = n + 1) := ints_len hF
  have HZ : Hid (F[0]? = some 0 ∧ F[n]? = some (m : Int)) := ⟨h0, hn⟩
  have HMO : Hid (type_of% hmono) := hmono
  have HXY : Hid (F[k0]? = some x ∧ F[k0 + 1]? = some y) := ⟨hx, hy⟩
  have HDB : Hid (type_of% (DB.made w (.slice (some ⟨fb, fof, none⟩) (n + 1) fc) (.slice uo m tc) (.slice wo m wc))) := DB.made w (.slice (some ⟨fb, fof, none⟩) (n + 1) fc) (.slice uo m tc) (.slice wo m wc)
  have HK : Hid (∀ wx, DB w (.slice (some ⟨fb, fof, none⟩) (n + 1) fc) (.slice uo m tc) (.slice wo m wc) wx → (wx.cell? ⟨w.heap.size, 0, none⟩ = some (.slice (some ⟨fb, fof, none⟩) (n + 1) fc) ∧ wx.cell? ⟨w.heap.size, 1, none⟩ = some (.slice uo m tc) ∧ wx.cell? ⟨w.heap.size, 2, none⟩ = some (.slice wo m wc)) ∧ w.heap.size < wx.heap.size ∧ fb < wx.heap.size ∧ ∀ (v : Nat) (a : Int), F[v]? = some a → wx.cell? ⟨fb, fof + v, none⟩ = some (.int .i64 a)) := fun wx h =>
    ⟨box3 h.box, lt_of_get h.box, Nat.lt_of_lt_of_le hl h.below.size, fun v a hv => (h.below.cell (p := ⟨fb, _, none⟩) hl).trans (hc v a hv)⟩
  clear hF hc hl h0 hn hx hy hmono
  have e1 : (0 : Int) < ((n + 1 : Nat) : Int) := by omega
  have e2 : IntKind.i64.wrap (((n + 1 : Nat) : Int) - 1) = (n : Int) := by rw [IntKind.wrap_i64] <;> omega
  have e2' : IntKind.i64.wrap ((n : Int) + 1 - 1) = (n : Int) := by rw [IntKind.wrap_i64] <;> omega
  have e3 : ¬ (n : Int) < 0 := by omega
  have e4 : (n : Int) < (n : Int) + 1 := by omega
  have e5 : (0 : Int) ≤ (n : Int) := by omega
  have e6 : ¬ (65536 : Int) < (n : Int) := by omega
  have e7 : ¬ (262144 : Int) < (m : Int) := by omega
  go_enter Tryz.func85, Tryz.ntmps85
  go_wp2_with fail
  generalize hW : (w.alloc (.cells #[.slice (some ⟨fb, fof, none⟩) (n + 1) fc, .slice uo m tc, .slice wo m wc] 55)).alloc (.cells #[.int .i64 0, .slice none 0 0] 51) = W0 at *
  clear hW
  obtain ⟨⟨c0, c1, c2⟩, cs, cf, hc⟩ := HK.out W0 HDB.out
  have q0 : W0.cell? ⟨fb, fof, none⟩ = some (.int .i64 0) := hc 0 0 HZ.out.1
  have q1 := hc n m HZ.out.2
  clear hc
  go_quiet (fail)
  have HD2 : Hid (type_of% (HDB.out.drew nq)) := HDB.out.drew nq
  go_wp2_with fail
  generalize W0.drewN nq = W1 at *
  clear c0 c1 c2 cs cf q0 q1
  go_loopw [5] (fun iv wr => ∃ k : Nat, k ≤ k0 ∧ iv = .int .i64 k ∧ DB w (.slice (some ⟨fb, fof, none⟩) (n + 1) fc) (.slice uo m tc) (.slice wo m wc) wr) (fun iv _ => n - (intOf iv).toNat)
  case atStart => exact ⟨0, Nat.zero_le _, rfl, HD2.out⟩
  case round =>
    obtain ⟨k, hk, rfl, hD⟩ := hrel
    have HDR : Hid (type_of% hD) := hD
    obtain ⟨⟨c0, c1, c2⟩, cs, cf, hc⟩ := HK.out wr hD
    have f1 : (k : Int) < (n : Int) + 1 := by omega
    have f2 : (k : Int) + 1 < (n : Int) + 1 := by omega
    have f3 : (0 : Int) ≤ (k : Int) := by omega
    have f4 : (0 : Int) ≤ (k : Int) + 1 := by omega
    have f5 : IntKind.i64.wrap ((k : Int) + 1) = (k : Int) + 1 := by rw [IntKind.wrap_i64] <;> omega
    have f6 : (k : Int) < (n : Int) := by omega
    by_cases hlt : k < k0
    · obtain ⟨a, ha⟩ : ∃ a, F[k]? = some a := ⟨F[k]'(by have := HLN.out; omega), List.getElem?_eq_getElem _⟩
      obtain ⟨b, hbb⟩ : ∃ b, F[k + 1]? = some b := ⟨F[k + 1]'(by have := HLN.out; omega), List.getElem?_eq_getElem _⟩
      have q0 := hc k a ha
      have q1 := hc (k + 1) b hbb
      have hab : ¬ b < a := by have := HMO.out k a b hlt ha hbb; omega
      clear hc hD ha hbb
      go_wp2
      go_quiet (fail)
      go_wp2
      go_roundw
      case rel => exact ⟨k + 1, by omega, by go_num, HDR.out.drew _⟩
      case measure => simp [intOf]; omega
    · obtain rfl : k = k0 := by omega
      have q0 := hc k x HXY.out.1
      have q1 := hc (k + 1) y HXY.out.2
      clear hc hD
      go_wp2
      go_quiet (fail)
      have HDX : Hid (type_of% (HDR.out.drew nq)) := HDR.out.drew nq
      go_wp2_with fail
      refine (E_calls _ _).mono ?_
      rintro e w2 ⟨rfl, hb2⟩
      have HD3 : Hid (type_of% (HDX.out.keep hb2)) := HDX.out.keep hb2
      clear hb2
      go_wp2_with fail
      refine (refAt_calls _ _ _ _).mono ?_
      rintro e w3 ⟨g, rfl, hg3, hb3⟩
      have HD4 : Hid (type_of% (HD3.out.keep hb3)) := HD3.out.keep hb3
      have HG3 : Hid (type_of% hg3) := hg3
      obtain ⟨b0, b1, y0, y1⟩ := cell_two HD4.out.res
      have hs4 := lt_of_get HD4.out.res
      have hne : g ≠ w.heap.size + 1 := fun e => by
        have h := HD4.out.res
        rw [← e, hg3] at h
        simp at h
      clear hb3 hg3
      go_wp2
      refine bodyPost_ret (v := .agg #[.int .i64 14, .slice (some ⟨g, 0, none⟩) 1 1]) (by simp [results, Tryz.results85, go_sem, b0, b1]) rfl ?_
      exact ⟨_, _, rfl, places_one (lay_ne HG3.out hne _ _), Below.lay HD4.out.below _ _⟩

theorem arc10 (n v i : Nat) (fv tz tp wt : Int) (hi : fv ≤ (i : Int)) :
    (tz < 0 ∧ arcNo n v i fv tz tp wt = 7) ∨ (¬ tz < 0 ∧ (n : Int) ≤ tz ∧ arcNo n v i fv tz tp wt = 7) ∨ (¬ tz < 0 ∧ ¬ (n : Int) ≤ tz ∧ tz = (v : Int) ∧ arcNo n v i fv tz tp wt = 14)
    ∨ (¬ tz < 0 ∧ ¬ (n : Int) ≤ tz ∧ ¬ tz = (v : Int) ∧ fv < (i : Int) ∧ tz ≤ tp ∧ arcNo n v i fv tz tp wt = 14)
    ∨ (¬ tz < 0 ∧ ¬ (n : Int) ≤ tz ∧ ¬ tz = (v : Int) ∧ fv < (i : Int) ∧ ¬ tz ≤ tp ∧ ((wt < 0 ∧ arcNo n v i fv tz tp wt = 8) ∨ (¬ wt < 0 ∧ 2147483647 < wt ∧ arcNo n v i fv tz tp wt = 8) ∨ (¬ wt < 0 ∧ ¬ 2147483647 < wt ∧ arcNo n v i fv tz tp wt = 0)))
    ∨ (¬ tz < 0 ∧ ¬ (n : Int) ≤ tz ∧ ¬ tz = (v : Int) ∧ ¬ fv < (i : Int) ∧ ((wt < 0 ∧ arcNo n v i fv tz tp wt = 8) ∨ (¬ wt < 0 ∧ 2147483647 < wt ∧ arcNo n v i fv tz tp wt = 8) ∨ (¬ wt < 0 ∧ ¬ 2147483647 < wt ∧ arcNo n v i fv tz tp wt = 0))) := by
  unfold arcNo
  by_cases h1 : tz < 0
  · exact Or.inl ⟨h1, by rw [if_pos (by omega)]⟩
  by_cases h2 : (n : Int) ≤ tz
  · exact Or.inr (Or.inl ⟨h1, h2, by rw [if_pos (by omega)]⟩)
  rw [if_neg (show ¬ ¬ (0 ≤ tz ∧ tz < (n : Int)) by omega)]
  by_cases h3 : tz = (v : Int)
  · exact Or.inr (Or.inr (Or.inl ⟨h1, h2, h3, by rw [if_pos (Or.inl h3)]⟩))
  have hw : ∀ c : Int, (if wt < 0 ∨ 2147483647 < wt then (8 : Int) else 0) = c → ((wt < 0 ∧ c = 8) ∨ (¬ wt < 0 ∧ 2147483647 < wt ∧ c = 8) ∨ (¬ wt < 0 ∧ ¬ 2147483647 < wt ∧ c = 0)) := fun c hc => by
    split at hc
    · omega
    · omega
  by_cases h4 : fv < (i : Int)
  · by_cases h5 : tz ≤ tp
    · exact Or.inr (Or.inr (Or.inr (Or.inl ⟨h1, h2, h3, h4, h5, by rw [if_pos (Or.inr ⟨by omega, h5⟩)]⟩)))
    · exact Or.inr (Or.inr (Or.inr (Or.inr (Or.inl ⟨h1, h2, h3, h4, h5, hw _ (by rw [if_neg (show ¬ (tz = (v : Int) ∨ (¬ (i : Int) = fv ∧ tz ≤ tp)) from fun h => h.elim h3 fun h => h5 h.2)])⟩))))
  · exact Or.inr (Or.inr (Or.inr (Or.inr (Or.inr ⟨h1, h2, h3, h4, hw _ (by rw [if_neg (show ¬ (tz = (v : Int) ∨ (¬ (i : Int) = fv ∧ tz ≤ tp)) from fun h => h.elim h3 fun h => h.1 (by omega))])⟩))))

set_option maxRecDepth 100000 in
set_option maxHeartbeats 16000000 in
theorem dc_arcs (n m : Nat) (F T W : List Int) (fa : Nat → Nat) (fb fof : Nat) (uo wo : Option Addr) (fc tc wc : Nat) (w : World) (hF : HasInts w (.slice (some ⟨fb, fof, none⟩) (n + 1) fc) F) (hT : HasInts w (.slice uo m tc) T) (hW : HasInts w (.slice wo m wc) W) (hu : Ups n m F fa) (hN : n ≤ 65536) (hM : m ≤ 262144)
    (i0 : Nat) (E : Int × List (Int × Int)) (hE : ∀ i v, v < n → fa v ≤ i → i < fa (v + 1) → i ≤ i0 → (i < i0 ∧ arcAt n fa T W v i = 0) ∨ (arcAt n fa T W v i ≠ 0 ∧ E = (arcAt n fa T W v i, [(4, (i : Int))]))) (hend : m ≤ i0 → E = (0, [])) :
    Calls Tryz.prog 85 #[.agg #[.slice (some ⟨fb, fof, none⟩) (n + 1) fc, .slice uo m tc, .slice wo m wc]] w (DocAns w E) := by
  obtain ⟨fb', fof', e, hl, hc⟩ := hF.cells (by omega)
  injection e with e
  injection e with e1 e2
  subst e1 e2
  have HZ : Hid (F[0]? = some 0 ∧ F[n]? = some (m : Int)) := ⟨by rw [hu.at' 0 (Nat.zero_le _), hu.zero]; rfl, by rw [hu.at' n (Nat.le_refl _), hu.top]⟩
  have HU : Hid (Ups n m F fa) := hu
  have HEND : Hid (m ≤ i0 → E = (0, [])) := hend
  have HEE0 : Hid (type_of% hE) := hE
  have lT : T.length = m := ints_len hT
  have lW : W.length = m := ints_len hW
  have HAR : Hid (∀ i, i < m → ∃ tb tof wb wof, uo = some ⟨tb, tof, none⟩ ∧ wo = some ⟨wb, wof, none⟩ ∧ ∀ wx, Below w.heap.size w wx → tb < wx.heap.size ∧ wb < wx.heap.size ∧ (∀ j, j < m → wx.cell? ⟨tb, tof + j, none⟩ = some (.int .i64 (T.getD j 0))) ∧ (∀ j, j < m → wx.cell? ⟨wb, wof + j, none⟩ = some (.int .i64 (W.getD j 0)))) := fun i hi => by
    obtain ⟨tb, tof, h1, ht, hTc⟩ := hT.cells (by omega)
    obtain ⟨wb, wof, h2, hw, hWc⟩ := hW.cells (by omega)
    have gT : ∀ j, j < m → T[j]? = some (T.getD j 0) := fun j hj => by rw [List.getD_eq_getElem?_getD, List.getElem?_eq_getElem (by omega)]; rfl
    have gW : ∀ j, j < m → W[j]? = some (W.getD j 0) := fun j hj => by rw [List.getD_eq_getElem?_getD, List.getElem?_eq_getElem (by omega)]; rfl
    exact ⟨tb, tof, wb, wof, h1, h2, fun wx hx => ⟨Nat.lt_of_lt_of_le ht hx.size, Nat.lt_of_lt_of_le hw hx.size, fun j hj => (hx.cell (p := ⟨tb, _, none⟩) ht).trans (hTc j _ (gT j hj)), fun j hj => (hx.cell (p := ⟨wb, _, none⟩) hw).trans (hWc j _ (gW j hj))⟩⟩
  have HDB : Hid (type_of% (DB.made w (.slice (some ⟨fb, fof, none⟩) (n + 1) fc) (.slice uo m tc) (.slice wo m wc))) := DB.made w (.slice (some ⟨fb, fof, none⟩) (n + 1) fc) (.slice uo m tc) (.slice wo m wc)
  have HK : Hid (∀ wx, DB w (.slice (some ⟨fb, fof, none⟩) (n + 1) fc) (.slice uo m tc) (.slice wo m wc) wx → (wx.cell? ⟨w.heap.size, 0, none⟩ = some (.slice (some ⟨fb, fof, none⟩) (n + 1) fc) ∧ wx.cell? ⟨w.heap.size, 1, none⟩ = some (.slice uo m tc) ∧ wx.cell? ⟨w.heap.size, 2, none⟩ = some (.slice wo m wc)) ∧ w.heap.size < wx.heap.size ∧ fb < wx.heap.size ∧ ∀ (v : Nat) (a : Int), F[v]? = some a → wx.cell? ⟨fb, fof + v, none⟩ = some (.int .i64 a)) := fun wx h =>
    ⟨box3 h.box, lt_of_get h.box, Nat.lt_of_lt_of_le hl h.below.size, fun v a hv => (h.below.cell (p := ⟨fb, _, none⟩) hl).trans (hc v a hv)⟩
  clear hF hT hW hc hl hu hE hend lT lW
  have e1 : (0 : Int) < ((n + 1 : Nat) : Int) := by omega
  have e2 : IntKind.i64.wrap (((n + 1 : Nat) : Int) - 1) = (n : Int) := by rw [IntKind.wrap_i64] <;> omega
  have e2' : IntKind.i64.wrap ((n : Int) + 1 - 1) = (n : Int) := by rw [IntKind.wrap_i64] <;> omega
  have e3 : ¬ (n : Int) < 0 := by omega
  have e4 : (n : Int) < (n : Int) + 1 := by omega
  have e5 : (0 : Int) ≤ (n : Int) := by omega
  have e6 : ¬ (65536 : Int) < (n : Int) := by omega
  have e7 : ¬ (262144 : Int) < (m : Int) := by omega
  go_enter Tryz.func85, Tryz.ntmps85
  go_wp2_with fail
  generalize hW : (w.alloc (.cells #[.slice (some ⟨fb, fof, none⟩) (n + 1) fc, .slice uo m tc, .slice wo m wc] 55)).alloc (.cells #[.int .i64 0, .slice none 0 0] 51) = W0 at *
  clear hW
  obtain ⟨⟨c0, c1, c2⟩, cs, cf, hc⟩ := HK.out W0 HDB.out
  have q0 : W0.cell? ⟨fb, fof, none⟩ = some (.int .i64 0) := hc 0 0 HZ.out.1
  have q1 := hc n m HZ.out.2
  clear hc
  go_quiet (fail)
  have HD2 : Hid (type_of% (HDB.out.drew nq)) := HDB.out.drew nq
  go_wp2_with fail
  generalize W0.drewN nq = W1 at *
  clear c0 c1 c2 cs cf q0 q1
  go_loopw [5] (fun iv wr => ∃ k : Nat, k ≤ n ∧ iv = .int .i64 k ∧ DB w (.slice (some ⟨fb, fof, none⟩) (n + 1) fc) (.slice uo m tc) (.slice wo m wc) wr) (fun iv _ => n - (intOf iv).toNat)
  case atStart => exact ⟨0, Nat.zero_le _, rfl, HD2.out⟩
  case round =>
    obtain ⟨k, hk, rfl, hD⟩ := hrel
    have HDR : Hid (type_of% hD) := hD
    obtain ⟨⟨c0, c1, c2⟩, cs, cf, hc⟩ := HK.out wr hD
    by_cases hlt : k < n
    · have f1 : (k : Int) < (n : Int) + 1 := by omega
      have f2 : (k : Int) + 1 < (n : Int) + 1 := by omega
      have f3 : (0 : Int) ≤ (k : Int) := by omega
      have f4 : (0 : Int) ≤ (k : Int) + 1 := by omega
      have f5 : IntKind.i64.wrap ((k : Int) + 1) = (k : Int) + 1 := by rw [IntKind.wrap_i64] <;> omega
      have q0 := hc k _ (HU.out.at' k (by omega))
      have q1 := hc (k + 1) _ (HU.out.at' (k + 1) (by omega))
      have hab : ¬ (fa (k + 1) : Int) < (fa k : Int) := by have := HU.out.up k hlt; omega
      generalize fa (k + 1) = y at *
      generalize fa k = x at *
      clear hc hD
      go_wp2
      go_quiet (fail)
      go_wp2
      go_roundw
      case rel => exact ⟨k + 1, by omega, by go_num, HDR.out.drew _⟩
      case measure => simp [intOf]; omega
    · clear hc hD
      generalize hwr : wr = w5 at *
      clear hwr
      clear c0 c1 c2 cs cf
      go_wp2_with fail
      go_loopw [6, 7] (fun vv iv wr => ∃ v i : Nat, v ≤ n ∧ fa v ≤ i ∧ i ≤ i0 ∧ vv = .int .i64 v ∧ iv = .int .i64 i ∧ DB w (.slice (some ⟨fb, fof, none⟩) (n + 1) fc) (.slice uo m tc) (.slice wo m wc) wr) (fun _ iv _ => m - (intOf iv).toNat)
      case atStart => exact ⟨0, 0, Nat.zero_le _, by rw [HU.out.zero]; exact Nat.le_refl _, Nat.zero_le _, rfl, rfl, HDR.out⟩
      case round =>
        obtain ⟨v1, i, hv1, hf1, him, rfl, rfl, hD⟩ := hrel
        have HD6 : Hid (type_of% hD) := hD
        have HF1 : Hid (fa v1 ≤ i) := hf1
        obtain ⟨⟨c0, c1, c2⟩, cs, cf, hc⟩ := HK.out wr hD
        clear hc hD hf1
        by_cases hilt : i < m
        · have HE : Hid (∀ v, v < n → fa v ≤ i → i < fa (v + 1) → i ≤ i0 → (i < i0 ∧ arcAt n fa T W v i = 0) ∨ (arcAt n fa T W v i ≠ 0 ∧ E = (arcAt n fa T W v i, [(4, (i : Int))]))) := HEE0.out i
          obtain ⟨tb, tof, wb, wof, rfl, rfl, hA⟩ := HAR.out i hilt
          have HA : Hid (type_of% hA) := hA
          clear hA HAR
          generalize hwr : wr = w6 at *
          clear hwr
          clear c0 c1 c2 cs cf
          go_wp2_with fail
          go_loopw [6] (fun vv wr => ∃ v : Nat, v ≤ n ∧ fa v ≤ i ∧ vv = .int .i64 v ∧ DB w (.slice (some ⟨fb, fof, none⟩) (n + 1) fc) (.slice (some ⟨tb, tof, none⟩) m tc) (.slice (some ⟨wb, wof, none⟩) m wc) wr) (fun vv _ => n - (intOf vv).toNat)
          case atStart => exact ⟨v1, hv1, HF1.out, rfl, HD6.out⟩
          case round =>
            obtain ⟨v, hv, hfv, rfl, hD⟩ := hrel
            have HDR : Hid (type_of% hD) := hD
            have hvn : v < n := by
              rcases Nat.lt_or_ge v n with h | h
              · exact h
              · obtain rfl : v = n := by omega
                have := HU.out.top
                omega
            obtain ⟨⟨c0, c1, c2⟩, cs, cf, hc⟩ := HK.out wr hD
            obtain ⟨x, hx⟩ : ∃ x, fa v = x := ⟨_, rfl⟩
            obtain ⟨y, hy⟩ : ∃ y, fa (v + 1) = y := ⟨_, rfl⟩
            have q0 := hc v _ (HU.out.at' v hv)
            have q1 := hc (v + 1) _ (HU.out.at' (v + 1) (by omega))
            rw [hx] at q0
            rw [hy] at q1
            have HX : Hid (fa v = x) := hx
            have HY : Hid (fa (v + 1) = y) := hy
            have hfx : x ≤ i := by omega
            have f1 : (v : Int) < (n : Int) + 1 := by omega
            have f2 : (v : Int) + 1 < (n : Int) + 1 := by omega
            have f3 : (0 : Int) ≤ (v : Int) := by omega
            have f4 : (0 : Int) ≤ (v : Int) + 1 := by omega
            have f5 : IntKind.i64.wrap ((v : Int) + 1) = (v : Int) + 1 := by rw [IntKind.wrap_i64] <;> omega
            clear hc hx hy
            by_cases hyi : y ≤ i
            · have hyi2 : (y : Int) ≤ (i : Int) := by omega
              clear hD
              go_wp2
              go_roundw
              case rel => exact ⟨v + 1, by omega, by rw [HY.out]; exact hyi, by go_num, HDR.out⟩
              case measure => simp [intOf]; omega
            · have hyi2 : ¬ (y : Int) ≤ (i : Int) := by omega
              obtain ⟨lt, lw, t0, w0⟩ := HA.out wr hD.below
              have HJ : Hid ((x : Int) < (i : Int) → ∃ j, i = j + 1 ∧ wr.cell? ⟨tb, tof + j, none⟩ = some (.int .i64 (T.getD (i - 1) 0))) := fun h => ⟨i - 1, by omega, t0 (i - 1) (by omega)⟩
              have ti := t0 i hilt
              have wi := w0 i hilt
              have i1 : (i : Int) < (m : Int) := by omega
              have i2 : (0 : Int) ≤ (i : Int) := by omega
              have HC : Hid (type_of% (arc10 n v i (fa v) (T.getD i 0) (T.getD (i - 1) 0) (W.getD i 0) (by omega))) := arc10 n v i (fa v) (T.getD i 0) (T.getD (i - 1) 0) (W.getD i 0) (by omega)
              rw [show arcNo n v i (fa v) (T.getD i 0) (T.getD (i - 1) 0) (W.getD i 0) = arcAt n fa T W v i from rfl, HX.out] at HC
              generalize T.getD i 0 = a at *
              generalize T.getD (i - 1) 0 = p at *
              generalize W.getD i 0 = q at *
              clear t0 w0 hD
              have HDBW : Hid (type_of% HDR.out) := HDR.out
              go_upto_block 6 with fail
              go_cut [8] (fun c wx => c = .int .i64 (arcAt n fa T W v i) ∧ DB w (.slice (some ⟨fb, fof, none⟩) (n + 1) fc) (.slice (some ⟨tb, tof, none⟩) m tc) (.slice (some ⟨wb, wof, none⟩) m wc) wx)
              case first =>
                rcases HC.out with ⟨h1, harc⟩ | ⟨h1, h2, harc⟩ | ⟨h1, h2, h3, harc⟩ | ⟨h1, h2, h3, h4, h5, harc⟩ | ⟨h1, h2, h3, h4, h5, h6⟩ | ⟨h1, h2, h3, h4, h6⟩
                all_goals clear HC HDBW HE HY HEND HEE0
                · clear HJ
                  go_wp2
                  go_meet
                  exact ⟨by rw [harc], HDR.out⟩
                · clear HJ
                  go_wp2
                  go_meet
                  exact ⟨by rw [harc], HDR.out⟩
                · clear HJ
                  subst h3
                  go_wp2
                  go_quiet (fail)
                  go_wp2
                  go_meet
                  exact ⟨by rw [harc], HDR.out.drew _⟩
                · skip
                  have hj1 := HJ.out
                  obtain ⟨j, hij, hjc⟩ := hj1 h4
                  have j1 : IntKind.i64.wrap ((i : Int) - 1) = (j : Int) := by rw [IntKind.wrap_i64] <;> omega
                  have j2 : (j : Int) < (m : Int) := by omega
                  have j3 : (0 : Int) ≤ (j : Int) := by omega
                  clear hij hj1
                  go_wp2
                  go_quiet (fail)
                  go_wp2
                  go_meet
                  exact ⟨by rw [harc], HDR.out.drew _⟩
                · skip
                  have hj1 := HJ.out
                  obtain ⟨j, hij, hjc⟩ := hj1 h4
                  have j1 : IntKind.i64.wrap ((i : Int) - 1) = (j : Int) := by rw [IntKind.wrap_i64] <;> omega
                  have j2 : (j : Int) < (m : Int) := by omega
                  have j3 : (0 : Int) ≤ (j : Int) := by omega
                  clear hij hj1
                  have h3b : (a == (v : Int)) = false := beq_eq_false_iff_ne.2 h3
                  rcases h6 with ⟨h6, harc⟩ | ⟨h6, h7, harc⟩ | ⟨h6, h7, harc⟩
                  · go_wp2
                    go_quiet (fail)
                    go_wp2
                    go_meet
                    exact ⟨by rw [harc], HDR.out.drew _⟩
                  · go_wp2
                    go_quiet (fail)
                    go_wp2
                    go_meet
                    exact ⟨by rw [harc], HDR.out.drew _⟩
                  · go_wp2
                    go_quiet (fail)
                    go_wp2
                    go_meet
                    exact ⟨by rw [harc], HDR.out.drew _⟩
                · clear HJ
                  obtain rfl : x = i := by omega
                  have h3b : (a == (v : Int)) = false := beq_eq_false_iff_ne.2 h3
                  rcases h6 with ⟨h6, harc⟩ | ⟨h6, h7, harc⟩ | ⟨h6, h7, harc⟩
                  · go_wp2
                    go_quiet (fail)
                    go_wp2
                    go_meet
                    exact ⟨by rw [harc], HDR.out.drew _⟩
                  · go_wp2
                    go_quiet (fail)
                    go_wp2
                    go_meet
                    exact ⟨by rw [harc], HDR.out.drew _⟩
                  · go_wp2
                    go_quiet (fail)
                    go_wp2
                    go_meet
                    exact ⟨by rw [harc], HDR.out.drew _⟩
              case rest =>
                obtain ⟨hc8, hDc⟩ := hcut
                have HDX : Hid (type_of% hDc) := hDc
                clear HC HJ ti wi hDc HDBW
                generalize harc : arcAt n fa T W v i = no at *
                subst hc8
                have HAC : Hid (arcAt n fa T W v i = no) := harc
                clear harc
                generalize wc = w7 at *
                have HEV : Hid ((i < i0 ∧ no = 0) ∨ (no ≠ 0 ∧ E = (no, [(4, (i : Int))]))) := by
                  have h := HE.out v hvn hfv (by rw [HY.out]; omega) him
                  rw [HAC.out] at h
                  exact h
                by_cases h0 : no = 0
                · subst h0
                  have HOK : Hid (i < i0) := by
                    rcases HEV.out with ⟨h, _⟩ | ⟨h, _⟩
                    · exact h
                    · exact absurd rfl h
                  go_wp2
                  go_roundw
                  case rel => exact ⟨v, i + 1, by omega, by omega, HOK.out, rfl, by go_num, HDX.out⟩
                  case measure => simp [intOf]; omega
                · have HEE : Hid (E = (no, [(4, (i : Int))])) := by
                    rcases HEV.out with ⟨_, h⟩ | ⟨_, h⟩
                    · exact absurd h h0
                    · exact h
                  clear HEV
                  go_wp2_with fail
                  refine (E_calls _ _).mono ?_
                  rintro e w2 ⟨rfl, hb2⟩
                  have HD3 : Hid (type_of% (HDX.out.keep hb2)) := HDX.out.keep hb2
                  clear hb2
                  go_wp2_with fail
                  refine (refAt_calls _ _ _ _).mono ?_
                  rintro e w3 ⟨g, rfl, hg3, hb3⟩
                  have HD4 : Hid (type_of% (HD3.out.keep hb3)) := HD3.out.keep hb3
                  have HG3 : Hid (type_of% hg3) := hg3
                  obtain ⟨b0, b1, y0, y1⟩ := cell_two HD4.out.res
                  have hs4 := lt_of_get HD4.out.res
                  have hne : g ≠ w.heap.size + 1 := fun e => by
                    have h := HD4.out.res
                    rw [← e, hg3] at h
                    simp at h
                  clear hb3 hg3
                  go_wp2
                  refine bodyPost_ret (v := .agg #[.int .i64 no, .slice (some ⟨g, 0, none⟩) 1 1]) (by simp [results, Tryz.results85, go_sem, b0, b1]) rfl ?_
                  rw [HEE.out]
                  exact ⟨_, _, rfl, places_one (lay_ne HG3.out hne _ _), Below.lay HD4.out.below _ _⟩
        · obtain rfl : E = (0, []) := HEND.out (by have := HF1.out; omega)
          obtain ⟨b0, b1, y0, y1⟩ := cell_two HD6.out.res
          have hs4 := lt_of_get HD6.out.res
          go_wp2
          refine bodyPost_ret (v := .agg #[.int .i64 0, .slice none 0 0]) (by simp [results, Tryz.results85, go_sem, b0, b1]) rfl ?_
          exact ⟨_, _, rfl, places_nil _, Below.lay HD6.out.below _ _⟩
end Go.Proofs.YtbaahjppofbdlaaGreatDoor
