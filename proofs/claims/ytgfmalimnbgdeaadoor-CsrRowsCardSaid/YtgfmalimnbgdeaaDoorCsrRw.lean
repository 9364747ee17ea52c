/- The law CsrRows, walked. -/
import Derived.Test.YtgfmalimnbgdeaaDoorCsrRo
import Derived.Test.YtgfmalimnbgdeaaDoorCsrWake
namespace Go.Proofs.YtgfmalimnbgdeaaDoor
open Go.RowKit Go.Extern

attribute [local go_sem] Oper.semAt_some

theorem own_none {w : World} {B n c : Nat} {lo : Option Addr} {xs : List Value} (h : w.ownsRow B 63 3 (.slice lo n c) n xs) : lo = none → c = 0 := fun e => by
  subst e
  rcases h.2 with ⟨h, _⟩ | ⟨g, cap, cur, h, _⟩
  · injection h
  · cases h
theorem rowC_apart {w w' : World} {B n : Nat} {v : Value} {xs : List Value} (h : w.ownsRow B 63 3 v n xs) (hk : ∀ g, B ≤ g → g < w.heap.size → w'.heap[g]? = w.heap[g]?) : w'.ownsRow B 63 3 v n xs := by
  obtain ⟨h1, h2⟩ := h
  refine ⟨h1, ?_⟩
  rcases h2 with h2 | ⟨g, cap, cur, e, hb, hh, r⟩
  · exact Or.inl h2
  · exact Or.inr ⟨g, cap, cur, e, hb, (hk g hb (lt_of_get hh)).trans hh, r⟩
theorem take_snoc {l : List (Int × Int × Int)} {j : Nat} {a : Int × Int × Int} (h : l[j]? = some a) : l.take (j + 1) = l.take j ++ [a] := by
  rw [List.take_add_one, h]; rfl
theorem below_newR (wx : World) (o : Obj) : Below wx.heap.size wx (wx.alloc o) := (Below.refl _ wx).alloc (Nat.le_refl _) _

set_option maxRecDepth 100000 in
set_option maxHeartbeats 8000000 in
theorem rows_good (n : Nat) (ao : Option Addr) (cap : Nat) (xs : List (Int × Int × Int)) (w : World) (hl : HasArcs w (.slice ao xs.length cap) xs) (hg : graphErr (n : Int) xs = (0, [])) (hn40 : n ≤ 40) (hx2000 : xs.length ≤ 2000) (hty : HasType w) : Calls Tryd.prog 5 #[.agg #[.int .i64 n, .slice ao xs.length cap]] w fun e w' => e = .returned (.bool true) ∧ Below w.heap.size w w' := by
  have hz := fine_norm hg
  have HBU : Hid (∀ wx, HasArcs wx (.slice ao xs.length cap) xs → type_of% (build_good n ao xs.length cap xs wx)) := fun wx _ => build_good n ao xs.length cap xs wx
  have HFW : Hid (∀ wx, HasArcs wx (.slice ao xs.length cap) xs → Calls Tryd.prog 27 #[.agg #[.int .i64 n, .slice ao xs.length cap], .int .i64 40] wx fun e w' => e = .returned (.bool true) ∧ Below wx.heap.size wx w') := fun wx h => by
    have := few_calls n ao cap xs 40 wx h (by unfold maxLen; omega)
    rw [show fewB n xs 40 = true from decide_eq_true ⟨hg, by omega, hx2000⟩] at this
    exact this
  obtain ⟨zs, hzs⟩ : ∃ zs, normA xs = zs := ⟨_, rfl⟩
  rw [hzs] at HBU hz
  have HGD : Hid (graphErr (n : Int) xs = (0, [])) := hg
  have hM := hz.short
  have HFI : Hid (Fine n zs) := hz
  have HL : Hid (HasArcs w (.slice ao xs.length cap) xs) := hl
  have HTY : Hid (HasType w) := hty
  clear hl hg hty hz hzs hx2000
  go_enter Tryd.func5, Tryd.ntmps5
  go_wp2_with fail
  have HN0 : Hid ((w.alloc (.cells #[.int .i64 n, .slice ao xs.length cap] 24)).heap[w.heap.size]? = some (.cells #[.int .i64 n, .slice ao xs.length cap] 24)) := heap_new _ _
  have HB0 : Hid (Below w.heap.size w (w.alloc (.cells #[.int .i64 n, .slice ao xs.length cap] 24))) := below_newR w _
  generalize w.alloc (.cells #[.int .i64 n, .slice ao xs.length cap] 24) = W0 at *
  have HK0 : Hid (∀ wx, Below W0.heap.size W0 wx → wx.cell? ⟨w.heap.size, 0, none⟩ = some (.int .i64 n) ∧ wx.cell? ⟨w.heap.size, 1, none⟩ = some (.slice ao xs.length cap) ∧ w.heap.size < wx.heap.size ∧ HasArcs wx (.slice ao xs.length cap) xs ∧ Below w.heap.size w wx ∧ HasType wx) := fun wx h => by
    have g := (h.block _ (lt_of_get HN0.out)).trans HN0.out
    have hb := HB0.out.trans (h.mono HB0.out.size)
    exact ⟨(cell_two g).1, (cell_two g).2.1, lt_of_get g, HL.out.keep hb, hb, HTY.out.keep hb HTY.out.pos⟩
  clear HN0 HB0
  refine (awake_calls W0).mono ?_
  rintro e w1 ⟨rfl, h⟩
  have R1 : Hid (Below W0.heap.size W0 w1) := h
  obtain ⟨g0, g1, gs, _, _, _⟩ := HK0.out w1 h
  clear h
  go_wp2_with fail
  refine (HFW.out w1 (HK0.out w1 R1.out).2.2.2.1).mono ?_
  rintro e w2 ⟨rfl, h⟩
  have R2 : Hid (Below W0.heap.size W0 w2) := R1.out.trans (h.mono R1.out.size)
  clear h g0 g1 gs
  obtain ⟨g0, g1, gs, _, _, _⟩ := HK0.out w2 R2.out
  go_wp2_with fail
  refine (HBU.out w2 (HK0.out w2 R2.out).2.2.2.1 (HK0.out w2 R2.out).2.2.2.1 HGD.out).mono ?_
  rintro e w3 ⟨F, T, V, rfl, _, hf, ht, hv, h⟩
  have R3 : Hid (Below W0.heap.size W0 w3) := R2.out.trans (h.mono R2.out.size)
  have C3 : Hid (CsrIn w3 n zs (some ⟨F, 0, none⟩) (some ⟨T, 0, none⟩) (some ⟨V, 0, none⟩) (n + 1) zs.length zs.length) := by
    refine ⟨hf.ints (n + 1) (firsts_len n zs) fun i a hi => ?_, ht.ints zs.length (tos_len zs) fun i a hi => ?_, hv.ints zs.length (weights_len zs) fun i a hi => ?_⟩
    · have hl := (List.getElem?_eq_some_iff.1 hi).1
      rw [firsts_len] at hl
      rw [firsts_at zs (show i ≤ n by omega)] at hi
      exact Option.some.inj hi
    · show (tos zs).getD i 0 = a
      rw [List.getD_eq_getElem?_getD, hi]; rfl
    · show (weights zs).getD i 0 = a
      rw [List.getD_eq_getElem?_getD, hi]; rfl
  clear h hf ht hv g0 g1 gs
  obtain ⟨g0, g1, gs, _, _, _⟩ := HK0.out w3 R3.out
  have HNC : Hid ((w3.alloc (.cells #[.slice (some ⟨F, 0, none⟩) (n + 1) (n + 1), .slice (some ⟨T, 0, none⟩) zs.length zs.length, .slice (some ⟨V, 0, none⟩) zs.length zs.length] 29)).heap[w3.heap.size]? = some (.cells #[.slice (some ⟨F, 0, none⟩) (n + 1) (n + 1), .slice (some ⟨T, 0, none⟩) zs.length zs.length, .slice (some ⟨V, 0, none⟩) zs.length zs.length] 29)) := heap_new _ _
  have HBC : Hid (Below w3.heap.size w3 (w3.alloc (.cells #[.slice (some ⟨F, 0, none⟩) (n + 1) (n + 1), .slice (some ⟨T, 0, none⟩) zs.length zs.length, .slice (some ⟨V, 0, none⟩) zs.length zs.length] 29))) := below_newR w3 _
  go_wp2_with fail
  generalize w3.alloc (.cells #[.slice (some ⟨F, 0, none⟩) (n + 1) (n + 1), .slice (some ⟨T, 0, none⟩) zs.length zs.length, .slice (some ⟨V, 0, none⟩) zs.length zs.length] 29) = Wc at *
  have HK : Hid (∀ wx, Below Wc.heap.size Wc wx → (wx.cell? ⟨w.heap.size, 0, none⟩ = some (.int .i64 n) ∧ wx.cell? ⟨w.heap.size, 1, none⟩ = some (.slice ao xs.length cap) ∧ w.heap.size < wx.heap.size) ∧ (wx.cell? ⟨w3.heap.size, 0, none⟩ = some (.slice (some ⟨F, 0, none⟩) (n + 1) (n + 1)) ∧ wx.cell? ⟨w3.heap.size, 1, none⟩ = some (.slice (some ⟨T, 0, none⟩) zs.length zs.length) ∧ wx.cell? ⟨w3.heap.size, 2, none⟩ = some (.slice (some ⟨V, 0, none⟩) zs.length zs.length) ∧ w3.heap.size < wx.heap.size) ∧ CsrIn wx n zs (some ⟨F, 0, none⟩) (some ⟨T, 0, none⟩) (some ⟨V, 0, none⟩) (n + 1) zs.length zs.length ∧ Below w.heap.size w wx ∧ HasType wx) := fun wx h => by
    have h3 := HBC.out.trans (h.mono HBC.out.size)
    have h0 := R3.out.trans (h3.mono R3.out.size)
    obtain ⟨q0, q1, q2, _, q3, q4⟩ := HK0.out wx h0
    have g := (h.block _ (lt_of_get HNC.out)).trans HNC.out
    exact ⟨⟨q0, q1, q2⟩, ⟨(box3 g).1, (box3 g).2.1, (box3 g).2.2, lt_of_get g⟩, C3.out.keep h3, q3, q4⟩
  clear HNC HBC C3 HK0 R1 R2 R3 g0 g1 gs HBU HFW
  generalize w3.heap.size = cb at *
  have HRW : Hid (∀ wx, Below Wc.heap.size Wc wx → ∀ v : Nat, v < n → Calls Tryd.prog 22 #[.agg #[.slice (some ⟨F, 0, none⟩) (n + 1) (n + 1), .slice (some ⟨T, 0, none⟩) zs.length zs.length, .slice (some ⟨V, 0, none⟩) zs.length zs.length], .int .i64 v] wx fun e w' => ∃ lo lc, e = .returned (.tuple #[.slice lo (theRow zs v).length lc, .nilIface]) ∧ w'.ownsRow wx.heap.size 63 3 (.slice lo (theRow zs v).length lc) (theRow zs v).length (flatC (theRow zs v)) ∧ Below wx.heap.size wx w') := fun wx h v hv => row_good n zs _ _ _ _ _ _ wx HFI.out (HK.out wx h).2.2.1 v hv
  have HFD : Hid (∀ wx, Below Wc.heap.size Wc wx → ∀ v x r no : Int, FindIs n zs v x r no → Calls Tryd.prog 25 #[.agg #[.slice (some ⟨F, 0, none⟩) (n + 1) (n + 1), .slice (some ⟨T, 0, none⟩) zs.length zs.length, .slice (some ⟨V, 0, none⟩) zs.length zs.length], .int .i64 v, .int .i64 x] wx fun e w' => e = .returned (.tuple #[.int .i64 r, numV no]) ∧ Below wx.heap.size wx w') := fun wx h v x r no hF => find_good n zs _ _ T 0 _ _ _ wx HFI.out (HK.out wx h).2.2.1 (Nat.le_refl _) v x r no hF
  have HGR : Hid (∀ wx, Below Wc.heap.size Wc wx → type_of% (graph_good n zs (some ⟨F, 0, none⟩) (some ⟨T, 0, none⟩) (some ⟨V, 0, none⟩) (n + 1) zs.length zs.length wx HFI.out)) := fun wx _ => graph_good n zs _ _ _ _ _ _ wx HFI.out
  have HSN : Hid (∀ wx, Below Wc.heap.size Wc wx → Calls Tryd.prog 13 #[.iface 65 (.int .i64 16), .agg #[.int .i64 16, .slice none 0 0]] wx fun e w' => e = .returned (.bool true) ∧ Below wx.heap.size wx w') := fun wx h => seen_told (16, []) (.iface 65 (.int .i64 16)) none 0 wx (Or.inr ⟨by decide, rfl⟩) ⟨none, 0, rfl, fun j p hj => by simp at hj⟩ (by simp) (HK.out wx h).2.2.2.2
  obtain ⟨⟨c0, c1, cs⟩, ⟨d0, d1, d2, ds⟩, _, _, _⟩ := HK.out Wc (Below.refl _ _)
  have HZ : Hid (firstAt zs 0 = 0 ∧ firstAt zs n = zs.length) := ⟨HFI.out.zero, HFI.out.top⟩
  go_loopw [5, 31] (fun sv iv wr => ∃ (v : Nat) (so : Option Addr) (sc : Nat), v ≤ n ∧ iv = .int .i64 v ∧ sv = .slice so (zs.take (firstAt zs v)).length sc ∧ wr.ownsRow Wc.heap.size 63 3 (.slice so (zs.take (firstAt zs v)).length sc) (zs.take (firstAt zs v)).length (flatC (zs.take (firstAt zs v))) ∧ Below Wc.heap.size Wc wr) (fun _ iv _ => n - (intOf iv).toNat)
  case atStart =>
    refine ⟨0, none, 0, Nat.zero_le _, rfl, ?_, ?_, Below.refl _ _⟩
    · rw [HZ.out.1]; rfl
    · rw [HZ.out.1]; exact World.ownsRow_nil _ _ _ _
  case round =>
    obtain ⟨v, so, sc, hv, rfl, rfl, hO, hb⟩ := hrel
    have HO : Hid (type_of% hO) := hO
    have HB : Hid (Below Wc.heap.size Wc wr) := hb
    clear hO hb c0 c1 cs d0 d1 d2 ds
    obtain ⟨⟨c0, c1, cs⟩, ⟨d0, d1, d2, ds⟩, _, _, _⟩ := HK.out wr HB.out
    by_cases hlt : v < n
    · have HRA : Hid (type_of% (HRW.out wr HB.out v hlt)) := HRW.out wr HB.out v hlt
      have HLK : Hid (∀ x : Nat, type_of% (HFI.out.find_lk (x := x) hlt)) := fun x => HFI.out.find_lk hlt
      have HLL : Hid ((zs.take (firstAt zs v)).length ≤ 262144 ∧ (theRow zs v).length ≤ 262144) := ⟨by rw [List.length_take]; omega, by have := rowOf_len (zs := zs) v (firstAt zs (v + 1)); unfold theRow; omega⟩
      have HAL : Hid (zs.take (firstAt zs v) ++ theRow zs v = zs.take (firstAt zs (v + 1))) := rowOf_all zs v
      generalize zs.take (firstAt zs v) = L at *
      generalize theRow zs v = R at *
      generalize hwr : wr = w1 at *
      clear hwr
      go_wp2_with fail
      refine HRA.out.mono ?_
      rintro e w2 ⟨lo, lc, rfl, hR, h⟩
      have R2 : Hid (Below Wc.heap.size Wc w2) := HB.out.trans (h.mono HB.out.size)
      have HR2 : Hid (w2.ownsRow w1.heap.size 63 3 (.slice lo R.length lc) R.length (flatC R) ∧ Below w1.heap.size w1 w2) := ⟨hR, h⟩
      clear hR h c0 c1 cs d0 d1 d2 ds HRA
      obtain ⟨⟨c0, c1, cs⟩, ⟨d0, d1, d2, ds⟩, _, _, _⟩ := HK.out w2 R2.out
      go_wp2_with (at_builtin; refine wpList_append_arcs rfl _ _ rfl Wc.heap.size (.slice so L.length sc) L rfl (rowC_keep HO.out HR2.out.2) lo lc R rfl (arcs_of_rowC HR2.out.1) (own_none HR2.out.1) (by have := HLL.out; omega) R2.out.size ?_; intro av w3 hown3 hgr3; have H3 : Hid (w3.ownsRow Wc.heap.size 63 3 av (L ++ R).length (flatC (L ++ R)) ∧ Below Wc.heap.size Wc w3 ∧ HasArcs w3 (.slice lo R.length lc) R) := ⟨hown3, below_grown R2.out (rowC_keep HO.out HR2.out.2) hgr3 R2.out.size, arcs_of_rowC (rowC_apart HR2.out.1 (fun g hg hl => hgr3.block g hl (fun e => by have := (HO.out.lt g e.symm).2; omega)))⟩; clear hown3 hgr3; clear c0 c1 cs d0 d1 d2 ds; obtain ⟨⟨c0, c1, cs⟩, ⟨d0, d1, d2, ds⟩, _, _, _⟩ := HK.out w3 H3.out.2.1)
      obtain ⟨po, pc, hav⟩ := rowC_slice H3.out.1
      subst hav
      obtain ⟨Q, hQ⟩ : ∃ Q, (L ++ R).length = Q := ⟨_, rfl⟩
      have HQ : Hid ((L ++ R).length = Q) := hQ
      rw [hQ]
      clear hQ
      go_loopw [47] (fun iv wr => ∃ x : Nat, x ≤ n ∧ iv = .int .i64 x ∧ Below w3.heap.size w3 wr) (fun iv _ => n - (intOf iv).toNat)
      case atStart => exact ⟨0, Nat.zero_le _, rfl, Below.refl _ _⟩
      case round =>
        obtain ⟨x, hx, rfl, hb⟩ := hrel
        have HX : Hid (Below w3.heap.size w3 wr) := hb
        have HXC : Hid (Below Wc.heap.size Wc wr) := H3.out.2.1.trans (hb.mono H3.out.2.1.size)
        clear hb c0 c1 cs d0 d1 d2 ds
        obtain ⟨⟨c0, c1, cs⟩, ⟨d0, d1, d2, ds⟩, _, _, _⟩ := HK.out wr HXC.out
        by_cases hxn : x < n
        · generalize hwr : wr = w4 at *
          clear hwr
          go_wp2_with fail
          go_loopw [10, 11, 52] (fun s10 s11 iv wr => ∃ j : Nat, j ≤ R.length ∧ iv = .int .i64 j ∧ s10 = .int .i64 (lk x (R.take j)).1 ∧ s11 = .bool (lk x (R.take j)).2 ∧ Below w4.heap.size w4 wr) (fun _ _ iv _ => R.length - (intOf iv).toNat)
          case atStart => exact ⟨0, Nat.zero_le _, rfl, rfl, rfl, Below.refl _ _⟩
          case round =>
            obtain ⟨j, hj, rfl, rfl, rfl, hb⟩ := hrel
            have HJ : Hid (Below w4.heap.size w4 wr) := hb
            clear hb
            by_cases hjl : j < R.length
            · obtain ⟨a, ha⟩ : ∃ a, R[j]? = some a := ⟨R[j], List.getElem?_eq_getElem hjl⟩
              obtain ⟨b, off, hlo, hbl, q0, q1, q2⟩ := ((H3.out.2.2.keep HX.out).keep HJ.out).at ha
              subst hlo
              have HS : Hid (lk x (R.take (j + 1)) = if a.2.1 = (x : Int) then (a.2.2, true) else lk x (R.take j)) := by show _ = _; rw [take_snoc ha, lk_snoc]
              have HNB : Hid (Below w4.heap.size w4 (wr.alloc (.cells #[.int .i64 a.1, .int .i64 a.2.1, .int .i64 a.2.2] 63))) := HJ.out.alloc HJ.out.size _
              have i1 : (j : Int) < (R.length : Int) := by omega
              have i2 : (0 : Int) ≤ (j : Int) := by omega
              have hRl := HLL.out.2
              obtain ⟨a0, a1, a2⟩ := a
              simp only at q0 q1 q2
              clear ha
              obtain ⟨y1, hy1⟩ : ∃ y1, lk x (R.take j) = y1 := ⟨_, rfl⟩
              rw [hy1] at HS ⊢
              clear hy1
              by_cases hax : a1 = (x : Int)
              · subst hax
                have hs2 : lk x (R.take (j + 1)) = (a2, true) := by have := HS.out; rw [if_pos rfl] at this; exact this
                have HS2 : Hid (type_of% hs2) := hs2
                clear hs2 HS
                go_wp2
                go_roundw
                case rel => exact ⟨j + 1, by omega, by go_num, by rw [HS2.out], by rw [HS2.out], HNB.out⟩
                case measure => simp [intOf]; omega
              · have hs2 : lk x (R.take (j + 1)) = y1 := by have := HS.out; rw [if_neg hax] at this; exact this
                have HS2 : Hid (type_of% hs2) := hs2
                have hax2 : (a1 == (x : Int)) = false := beq_eq_false_iff_ne.mpr hax
                clear hs2 HS
                go_wp2
                go_roundw
                case rel => exact ⟨j + 1, by omega, by go_num, by rw [HS2.out], by rw [HS2.out], HNB.out⟩
                case measure => simp [intOf]; omega
            · obtain rfl : j = R.length := by omega
              rw [List.take_length]
              have R5 : Hid (Below Wc.heap.size Wc wr) := HXC.out.trans (HJ.out.mono HXC.out.size)
              have R53 : Hid (Below w3.heap.size w3 wr) := HX.out.trans (HJ.out.mono HX.out.size)
              clear c0 c1 cs d0 d1 d2 ds
              obtain ⟨⟨c0, c1, cs⟩, ⟨d0, d1, d2, ds⟩, _, _, _⟩ := HK.out wr R5.out
              rcases HLK.out x hxn with ⟨hk, hF⟩ | ⟨r, hk, hF⟩
              · rw [hk]
                have HFA : Hid (type_of% (HFD.out wr R5.out v x 0 16 hF)) := HFD.out wr R5.out v x 0 16 hF
                clear hk hF
                go_wp2_with (first
                  | (go_at_call 25; refine HFA.out.mono ?_; rintro e w6 ⟨rfl, h⟩; rw [show numV 16 = .iface 65 (.int .i64 16) from rfl]; have R6 : Hid (Below Wc.heap.size Wc w6 ∧ Below w3.heap.size w3 w6) := ⟨R5.out.trans (h.mono R5.out.size), R53.out.trans (h.mono R53.out.size)⟩; clear h)
                  | (go_at_call 28; refine (E_calls 16 w6).mono ?_; rintro e w7 ⟨rfl, h⟩; have R7 : Hid (Below Wc.heap.size Wc w7 ∧ Below w3.heap.size w3 w7) := ⟨R6.out.1.trans (h.mono R6.out.1.size), R6.out.2.trans (h.mono R6.out.2.size)⟩; clear h)
                  | (go_at_call 13; refine (HSN.out w7 R7.out.1).mono ?_; rintro e w8 ⟨rfl, h⟩; have R8 : Hid (Below w3.heap.size w3 w8) := R7.out.2.trans (h.mono R7.out.2.size); clear h))
                go_roundw
                case rel => exact ⟨x + 1, by omega, by go_num, R8.out⟩
                case measure => simp [intOf]; omega
              · rw [hk]
                have HFA : Hid (type_of% (HFD.out wr R5.out v x r 0 hF)) := HFD.out wr R5.out v x r 0 hF
                clear hk hF
                go_wp2_with (go_at_call 25; refine HFA.out.mono ?_; rintro e w6 ⟨rfl, h⟩; rw [show numV 0 = .nilIface from rfl]; have R6 : Hid (Below w3.heap.size w3 w6) := R53.out.trans (h.mono R53.out.size); clear h)
                go_roundw
                case rel => exact ⟨x + 1, by omega, by go_num, R6.out⟩
                case measure => simp [intOf]; omega
        · have HN : Hid (wr.ownsRow Wc.heap.size 63 3 (.slice po (zs.take (firstAt zs (v + 1))).length pc) (zs.take (firstAt zs (v + 1))).length (flatC (zs.take (firstAt zs (v + 1))))) := by
            have h := rowC_keep H3.out.1 HX.out
            rw [HAL.out] at h
            exact h
          have HNL : Hid ((zs.take (firstAt zs (v + 1))).length = Q) := by show _ = _; rw [← HAL.out]; exact HQ.out
          go_wp2
          go_roundw
          case rel => exact ⟨v + 1, po, pc, by omega, by go_num, by rw [HNL.out], HN.out, HXC.out⟩
          case measure => simp [intOf]; omega
    · obtain rfl : v = n := by omega
      have htk : zs.take (firstAt zs v) = zs := by rw [HZ.out.2, List.take_length]
      rw [htk] at HO ⊢
      have HGA : Hid (type_of% (HGR.out wr HB.out (HK.out wr HB.out).2.2.1)) := HGR.out wr HB.out (HK.out wr HB.out).2.2.1
      clear htk
      go_wp2_with fail
      refine HGA.out.mono ?_
      rintro e w2 ⟨ho, hc, rfl, hOw, h⟩
      have R2 : Hid (Below Wc.heap.size Wc w2) := HB.out.trans (h.mono HB.out.size)
      have HA2 : Hid (HasArcs w2 (.slice ho zs.length hc) zs ∧ HasArcs w2 (.slice so zs.length sc) zs) := ⟨arcs_of_rowC hOw, (arcs_of_rowC HO.out).keep h⟩
      clear hOw h c0 c1 cs d0 d1 d2 ds
      obtain ⟨⟨c0, c1, cs⟩, ⟨d0, d1, d2, ds⟩, _, _, _⟩ := HK.out w2 R2.out
      have HB2 : Hid (Below w2.heap.size w2 (w2.alloc (.cells #[.int .i64 v, .slice ho zs.length hc] 24))) := below_newR w2 _
      have HSM : Hid (Calls Tryd.prog 21 #[.agg #[.int .i64 v, .slice ho zs.length hc], .agg #[.int .i64 v, .slice so zs.length sc]] (w2.alloc (.cells #[.int .i64 v, .slice ho zs.length hc] 24)) fun e w' => e = .returned (.bool true) ∧ Below w.heap.size w w') := by
        refine (same_yes v ho so zs.length zs.length hc sc zs _ (HA2.out.1.keep HB2.out) (HA2.out.2.keep HB2.out) (by unfold maxLen; omega)).mono ?_
        rintro e w' ⟨he, hb⟩
        have h1 := (HK.out w2 R2.out).2.2.2.1
        have h2 := h1.trans (HB2.out.mono h1.size)
        exact ⟨he, h2.trans (hb.mono h2.size)⟩
      go_wp2_with (go_at_call 21; refine HSM.out.mono ?_; rintro e w3 ⟨rfl, h⟩; have H3 : Hid (Below w.heap.size w w3) := h; clear h)
      go_ret
      exact ⟨rfl, H3.out⟩
end Go.Proofs.YtgfmalimnbgdeaaDoor
