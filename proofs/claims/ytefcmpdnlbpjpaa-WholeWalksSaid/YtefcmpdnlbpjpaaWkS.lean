/- walk.Simple, whatever the list: what simpS makes of it, in memory of its own. -/
import Derived.Test.YtefcmpdnlbpjpaaWkM
import Derived.Test.YtefcmpdnlbpjpaaRefBu
import Derived.Maps.OwnOps
namespace Go.Proofs.Ytefcmpdnlbpjpaa
open Go.RowKit Go.Extern Go.Maps

attribute [local go_sem] Oper.semAt_some

theorem law_ii : Keyed Try.prog 3 := int_keyed Try.underlying3
theorem zero_ii (w : World) : (zeroValue 3).run Try.prog w = .ok (.int .i64 0) w := by kernel_rfl
theorem Try.elemS : Try.prog.underlying 25 = some (.slice (Try.prog.elem 25)) := by kernel_rfl
theorem Try.sizeS (w : World) : (sizeOf (Try.prog.elem 25)).run Try.prog w = .ok 1 w := by kernel_rfl
theorem isl_to (b n lc i : Nat) (h : n ≤ lc) (hi : i ≤ n) (w : World) : (Instr.slice 25 (.slice (some ⟨b, 0, none⟩) n lc) none (some (.int .i64 (i : Int))) none).run Try.prog w = .ok (.slice (some ⟨b, 0, none⟩) i lc) w := by
  rw [run_slice_h (ht := Try.elemS) (h0 := by omega) (h2 := by omega), Try.sizeS]
  have e2 : (i : Int).toNat = i := by omega
  simp only [Result.andThen_ok, sliced, e2]
  simp [Addr.add]
theorem isl_from (b n lc i : Nat) (h : n ≤ lc) (hi : i ≤ n) : ∃ ao, (∀ w, (Instr.slice 25 (.slice (some ⟨b, 0, none⟩) n lc) (some (.int .i64 (i : Int))) none none).run Try.prog w = .ok (.slice ao (n - i) (lc - i)) w) ∧ (i < n → ao = some ⟨b, i, none⟩) := by
  have e2 : (i : Int).toNat = i := by omega
  refine ⟨if lc = i then some ⟨b, 0, none⟩ else (some (⟨b, 0, none⟩ : Addr)).map (·.add (i * 1)), fun w => ?_, fun hl => ?_⟩
  · rw [run_slice_l (ht := Try.elemS) (h0 := by omega) (h1 := by omega), Try.sizeS]
    simp only [Result.andThen_ok, sliced, e2]
  · rw [if_neg (by omega)]
    show some ((⟨b, 0, none⟩ : Addr).add (i * 1)) = _
    rw [Addr.add_lit, Nat.zero_add, Nat.mul_one]
/-- a row that is cut is a row. -/
theorem iown_cut {w : World} {B g n cap m : Nat} {l : List Int} (h : w.ownsRow B 3 1 (.slice (some ⟨g, 0, none⟩) n cap) n (iv l)) (hm : m ≤ n) : w.ownsRow B 3 1 (.slice (some ⟨g, 0, none⟩) m cap) m (iv (l.take m)) := by
  have hl : l.length = n := by have := h.1; simp [iv] at this; exact this
  refine ⟨by simp [iv, hl]; omega, ?_⟩
  rcases h.2 with ⟨e, _⟩ | ⟨g', cap', cur, e, hb, hh, hle, hmx, hsz, ht⟩
  · cases e
  · cases e
    refine .inr ⟨g, cap, cur, rfl, hb, hh, by omega, hmx, hsz, ?_⟩
    have e2 : cur.toList.take (m * 1) = (cur.toList.take (n * 1)).take m := by rw [List.take_take]; congr 1; omega
    rw [e2, ht]
    simp [iv, List.map_take]
theorem cell_one1 (w : World) (v : Value) : ∀ j u, [v][j]? = some u → (w.alloc (.cells #[v] 3)).cell? ((⟨w.heap.size, 0, none⟩ : Addr).add j) = some u := by
  intro j u hj
  rcases j with _ | j
  · simp at hj
    subst hj
    have hg := heap_new w (.cells #[v] 3)
    rw [Addr.add_lit]
    generalize w.alloc (.cells #[v] 3) = W at hg ⊢
    simp [World.cell?, hg]
  · simp at hj
theorem iown_alloc {w : World} {B n : Nat} {v : Value} {xs : List Value} (h : w.ownsRow B 3 1 v n xs) (o : Obj) : (w.alloc o).ownsRow B 3 1 v n xs := iown_keep h fun k hk => Below.heap_alloc _ _ _ (h.lt k hk).2
theorem iown_old {w w' : World} {M n : Nat} {v : Value} {xs : List Value} (h : w.ownsRow (M + 1) 3 1 v n xs) (hg : w.grownBy w' (some M)) : w'.ownsRow (M + 1) 3 1 v n xs := iown_keep h fun k hk => hg.block k (h.lt k hk).2 (fun e => by have h1 := (h.lt k hk).1; have := Option.some.inj e; omega)
theorem iown_base0 {w : World} {M n : Nat} {v : Value} {xs : List Value} (h : w.ownsRow (M + 1) 3 1 v n xs) : w.ownsRow M 3 1 v n xs := by
  obtain ⟨h1, h2⟩ := h
  refine ⟨h1, ?_⟩
  rcases h2 with h2 | ⟨g, cap, cur, e, hb, r⟩
  · exact Or.inl h2
  · exact Or.inr ⟨g, cap, cur, e, by omega, r⟩
theorem below_g {w wr w1 : World} {row : Option Nat} (h : Below w.heap.size w wr) (hg : wr.grownBy w1 row) (hr : ∀ k, some k = row → w.heap.size ≤ k) : Below w.heap.size w w1 :=
  h.trans ⟨hg.os, hg.tape, hg.output, hg.size, fun k hk => hg.block k (Nat.lt_of_lt_of_le hk h.size) (fun e => by have := hr k e; omega)⟩
/-- numbers as cells, by another name. -/
abbrev iv' (l : List Int) : List Value := iv l
/-- what holds at each round. -/
structure SI (w : World) (M : Nat) (s : List Int) (k : Nat) (ko : Option Addr) (kc : Nat) (wr : World) : Prop where
  row : wr.ownsRow (M + 1) 3 1 (.slice ko s.length kc) s.length (iv s)
  map : ∃ D : DataW Unit, wr.ownsMap Try.prog 3 (plainElem Try.prog 3) M k D ∧ MapIs D s s
  below : Below w.heap.size w wr
  size : M + 1 ≤ wr.heap.size

set_option maxRecDepth 100000 in
set_option maxHeartbeats 4000000 in
theorem simple_calls (lo : Option Addr) (lc : Nat) (xs : List Int) (w : World) (hl : HasInts w (.slice lo xs.length lc) xs) (hx : ∀ x ∈ xs, (Lit.int .i64 x).wf = true) (hm : xs.length * 8 ≤ 140737488351232) :
    Calls Try.prog 13 #[.slice lo xs.length lc] w fun e w' => ∃ so sc, e = .returned (.slice so (simpS xs).length sc) ∧ w'.ownsRow w.heap.size 3 1 (.slice so (simpS xs).length sc) (simpS xs).length (iv (simpS xs)) ∧ Below w.heap.size w w' := by
  have hmm := @run_makeMap Try.prog
  have HL : Hid (HasInts w (.slice lo xs.length lc) xs) := hl
  have HX : Hid (∀ x ∈ xs, (Lit.int .i64 x).wf = true) := hx
  obtain ⟨i0, hi, hz0, hz1, hz2⟩ : ∃ i, Try.prog.info? 3 = some i ∧ i.zero = some (.int .i64 0) ∧ i.size = 1 ∧ i.bytes = 8 := by
    have h := infoJ
    cases hi : Try.prog.info? 3 with
    | none => rw [hi] at h; cases h
    | some i => rw [hi] at h; simp at h; exact ⟨i, rfl, h.1, h.2.1, h.2.2⟩
  clear hl hx
  go_enter Try.func13, Try.ntmps13
  go_wp2_with fail
  have HM0 : Hid ((w.alloc (.map #[] 0)).ownsMap Try.prog 3 (plainElem (H := Unit) Try.prog 3) w.heap.size 0 (.map [])) := World.ownsMap_made _ _ _ _
  have HB0 : Hid (Below w.heap.size w (w.alloc (.map #[] 0))) := (Below.refl _ w).alloc (Nat.le_refl _) _
  have HS0 : Hid (w.heap.size + 1 ≤ (w.alloc (.map #[] 0)).heap.size) := by show _ ≤ _; simp
  generalize w.alloc (.map #[] 0) = W0 at *
  go_loopw [3, 14] (fun kv iv wr => ∃ (k : Nat) (ko : Option Addr) (kc : Nat), k ≤ xs.length ∧ iv = .int .i64 k ∧ kv = .slice ko (simpS (xs.take k)).length kc ∧ SI w w.heap.size (simpS (xs.take k)) k ko kc wr) (fun _ iv _ => xs.length - (intOf iv).toNat)
  case atStart => exact ⟨0, none, 0, Nat.zero_le _, rfl, rfl, ⟨World.ownsRow_nil _ _ _ _, ⟨_, HM0.out, MapIs.nil⟩, HB0.out, HS0.out⟩⟩
  case round =>
    obtain ⟨k, ko, kc, hk, rfl, rfl, hI⟩ := hrel
    by_cases hlt : k < xs.length
    · obtain ⟨a, ha⟩ : ∃ a, xs[k]? = some a := ⟨xs[k], List.getElem?_eq_getElem hlt⟩
      obtain ⟨b, off, hao, hbl, q0⟩ := HL.out.at ha
      subst hao
      have e0 := (hI.below.cell (p := ⟨b, off + k, none⟩) hbl).trans q0
      have hbw : b < wr.heap.size := Nat.lt_of_lt_of_le hbl hI.below.size
      have hwf : (Lit.int .i64 a).wf = true := HX.out a (List.mem_of_getElem? ha)
      have HSN : Hid (simpS (xs.take (k + 1)) = stepS (simpS (xs.take k)) a) := simpS_snoc ha
      have HND : Hid ((simpS (xs.take k)).Nodup) := simpS_nodup _
      have hsl : (simpS (xs.take k)).length ≤ k := Nat.le_trans (simpS_len _) (by rw [List.length_take]; omega)
      have HWF : Hid (∀ x ∈ simpS (xs.take k), (Lit.int .i64 x).wf = true) := fun x h => HX.out x (List.mem_of_mem_take (simpS_mem h))
      generalize simpS (xs.take k) = s at *
      have hkey : keyOf Try.prog 3 (.int .i64 a) = some (ky a) := keyOf_int_mk Try.underlying3 hwf
      obtain ⟨D, hmap, hD⟩ := hI.map
      have HI : Hid (SI w w.heap.size s k ko kc wr) := hI
      have HMP : Hid (wr.ownsMap Try.prog 3 (plainElem Try.prog 3) w.heap.size k D ∧ MapIs D s s) := ⟨hmap, hD⟩
      have i0' : (0 : Int) ≤ (k : Int) := by omega
      have i1' : (k : Int) < (xs.length : Int) := by omega
      have hhas := hD.has a
      clear q0 ha hI hmap hD
      by_cases hv : a ∈ s
      · rw [decide_eq_true hv] at hhas
        have hIr := HI.out.row
        obtain ⟨g, cap', e, hgB, hgl⟩ := hIr.form (List.length_pos_of_mem hv)
        injection e with e1 _ e3
        subst e1
        subst e3
        have hle : s.length ≤ kc := by
          rcases hIr.2 with ⟨e, _⟩ | ⟨g', c', cur, e, _, _, h, _⟩
          · cases e
          · cases e; exact h
        have HSE : Hid (simpS (xs.take (k + 1)) = s.take (s.idxOf a + 1)) := by
          have h := HSN.out
          unfold stepS at h
          rw [if_pos hv] at h
          exact h
        have hpl : s.idxOf a < s.length := List.idxOf_lt_length_of_mem hv
        have HV : Hid (a ∈ s) := hv
        have HLK : Hid (∀ c, D.atKey (ky a) (.lit (.int .i64 0)) = .lit (.int .i64 c) → c = (s.idxOf a : Int)) := fun c hc => (HMP.out.2.look HV.out hc).1
        generalize s.idxOf a = p at *
        obtain ⟨ro, hr1, hr2⟩ : ∃ ro, (∀ wx, (Instr.slice 25 (.slice (some ⟨g, 0, none⟩) s.length kc) (some (.int .i64 ((p : Int) + 1))) none none).run Try.prog wx = .ok (.slice ro (s.length - (p + 1)) (kc - (p + 1))) wx) ∧ (p + 1 < s.length → ro = some ⟨g, p + 1, none⟩) := by
          obtain ⟨ro, h1, h2⟩ := isl_from g s.length kc (p + 1) hle (by omega)
          exact ⟨ro, fun wx => by simpa using h1 wx, h2⟩
        have hr3 : ∀ wx, (Instr.slice 25 (.slice (some ⟨g, 0, none⟩) s.length kc) none (some (.int .i64 ((p : Int) + 1))) none).run Try.prog wx = .ok (.slice (some ⟨g, 0, none⟩) (p + 1) kc) wx := fun wx => by
          have h := isl_to g s.length kc (p + 1) hle (by omega) wx
          simpa using h
        have hw1 : IntKind.i64.wrap ((p : Int) + 1) = (p : Int) + 1 := by rw [IntKind.wrap_i64] <;> omega
        obtain ⟨q, hq⟩ : ∃ q, s.length - (p + 1) = q := ⟨_, rfl⟩
        have HQ : Hid (p + 1 + q = s.length) := by show _ = _; omega
        have hqb : q < 17592186043905 := by omega
        rw [hq] at hr1
        have HRO : Hid (p + 1 < s.length → ro = some ⟨g, p + 1, none⟩) := hr2
        clear hIr hr2 hq hgB hgl
        go_wp2_with (first
          | (at_lookup; refine wpList_lookup_own_ok_int _ rfl _ _ 78 rfl 3 3 .i64 law_ii Try.underlying78 Try.underlying3 (zero_ii _) w.heap.size k D rfl HMP.out.1 _ (ky a) rfl hkey ?_; intro c hat hwc; have hc := HLK.out c hat; subst hc; clear hat hwc))
        have HIN : Hid (∃ D', wr.ownsMap Try.prog 3 (plainElem (H := Unit) Try.prog 3) w.heap.size k D' ∧ MapIs D' (s.take (p + 1) ++ s.drop (p + 1 + 0)) s) := ⟨D, HMP.out.1, by rw [Nat.add_zero, List.take_append_drop]; exact HMP.out.2⟩
        generalize hW1 : wr = W1 at *
        clear hW1
        go_loopw [39] (fun iv wx => ∃ (t : Nat), t ≤ q ∧ iv = .int .i64 t ∧ wx.ownsRow (w.heap.size + 1) 3 1 (.slice (some ⟨g, 0, none⟩) s.length kc) s.length (iv' s) ∧ (∃ D', wx.ownsMap Try.prog 3 (plainElem (H := Unit) Try.prog 3) w.heap.size k D' ∧ MapIs D' (s.take (p + 1) ++ s.drop (p + 1 + t)) s) ∧ Below w.heap.size w wx ∧ w.heap.size + 1 ≤ wx.heap.size) (fun iv _ => q - (intOf iv).toNat)
        case atStart => exact ⟨0, Nat.zero_le _, rfl, HI.out.row, HIN.out, HI.out.below, HI.out.size⟩
        case round =>
          obtain ⟨t, ht, rfl, hrow, ⟨D', hown, hDp⟩, hbe, hsz⟩ := hrel
          have HB2 : Hid (Below w.heap.size w wr ∧ w.heap.size + 1 ≤ wr.heap.size) := ⟨hbe, hsz⟩
          have HRW : Hid (wr.ownsRow (w.heap.size + 1) 3 1 (.slice (some ⟨g, 0, none⟩) s.length kc) s.length (iv' s)) := hrow
          have HOW : Hid (wr.ownsMap Try.prog 3 (plainElem (H := Unit) Try.prog 3) w.heap.size k D' ∧ MapIs D' (s.take (p + 1) ++ s.drop (p + 1 + t)) s) := ⟨hown, hDp⟩
          by_cases htl : t < q
          · have hqs := HQ.out
            obtain ⟨x, hx⟩ : ∃ x, s[p + 1 + t]? = some x := ⟨s[p + 1 + t], List.getElem?_eq_getElem (by omega)⟩
            have hro := HRO.out (by omega)
            subst hro
            have c0 : wr.cell? ⟨g, p + 1 + t, none⟩ = some (.int .i64 x) := by
              rw [hrow.cellAt (p + 1 + t) (by omega)]
              show (s.map (Value.int .i64))[p + 1 + t]? = _
              rw [List.getElem?_map, hx]
              rfl
            have gl : g < wr.heap.size := (hrow.lt g rfl).2
            have hkx : keyOf Try.prog 3 (.int .i64 x) = some (ky x) := keyOf_int_mk Try.underlying3 (HWF.out x (List.mem_of_getElem? hx))
            have HDE : Hid (MapIs (D'.del (ky x)) (s.take (p + 1) ++ s.drop (p + 1 + (t + 1))) s) := by
              have e : s.drop (p + 1 + t) = x :: s.drop (p + 1 + t + 1) := by
                obtain ⟨h1, h2⟩ := List.getElem?_eq_some_iff.1 hx
                rw [List.drop_eq_getElem_cons h1, h2]
              have h := hDp
              rw [e] at h
              exact h.drop (nodup_parts HND.out hx (p + 1) (by omega))
            have t0 : (0 : Int) ≤ (t : Int) := by omega
            have t1 : (t : Int) < (q : Int) := by omega
            clear hrow hown hDp hbe hsz hx hqs
            go_wp2_with (at_delete; refine wpList_delete_own _ rfl _ _ 78 3 rfl 3 law_ii Try.underlying78 _ w.heap.size k D' rfl HOW.out.1 _ (ky x) rfl hkx ?_; intro w1 hown1 hturn1; have HO1 : Hid (w1.ownsMap Try.prog 3 (plainElem (H := Unit) Try.prog 3) w.heap.size k (D'.del (ky x))) := hown1; have HT1 : Hid (wr.grownBy w1 (some w.heap.size)) := hturn1.grown; clear hown1 hturn1)
            refine ⟨⟨t + 1, by omega, by go_num, iown_old HRW.out HT1.out, ⟨_, HO1.out, HDE.out⟩, below_g HB2.out.1 HT1.out (fun k e => by have := Option.some.inj e; omega), Nat.le_trans HB2.out.2 HT1.out.size⟩, by simp [intOf]; omega⟩
          · obtain rfl : t = q := by omega
            clear hrow hown hDp hbe hsz
            go_wp2
            have hqs := HQ.out
            have hpt : (s.take (p + 1)).length = p + 1 := by rw [List.length_take]; omega
            refine ⟨⟨k + 1, some ⟨g, 0, none⟩, kc, by omega, by go_num, by rw [HSE.out, hpt], ?_⟩, by simp [intOf]; omega⟩
            rw [HSE.out]
            refine ⟨?_, ⟨D', HOW.out.1.mono (Nat.le_succ _), ?_⟩, HB2.out.1, HB2.out.2⟩
            · rw [hpt]
              exact iown_cut HRW.out (by omega)
            · have h := HOW.out.2
              rw [List.drop_eq_nil_of_le (by omega), List.append_nil] at h
              exact h.cut
      · rw [decide_eq_false hv] at hhas
        have HV : Hid (a ∉ s) := hv
        have HSE : Hid (simpS (xs.take (k + 1)) = s ++ [a]) := by
          have h := HSN.out
          unfold stepS at h
          rw [if_neg hv] at h
          exact h
        have hwl : (Lit.int .i64 (s.length : Int)).wf = true := WalkArith.wf_i64 (by omega)
        go_wp2_with (first
          | (at_lookup; refine wpList_lookup_own_ok_int _ rfl _ _ 78 rfl 3 3 .i64 law_ii Try.underlying78 Try.underlying3 (zero_ii _) w.heap.size k D rfl HMP.out.1 _ (ky a) rfl hkey ?_; intro c hat hwc; clear hat hwc)
          | (at_mapUpdate; refine wpList_mapUpdate_own _ rfl _ _ _ 78 rfl 3 3 law_ii Try.underlying78 _ w.heap.size k D rfl HMP.out.1 (by unfold maxLen; omega) _ _ (ky a) rfl rfl hkey (.lit (.int .i64 (s.length : Int))) [] (plainElem_int Try.underlying3 hwl) ?_; intro w1 hown1 hgrow1; have HM1 : Hid (w1.ownsMap Try.prog 3 (plainElem (H := Unit) Try.prog 3) w.heap.size (k + 1) (D.put (ky a) (.lit (.int .i64 (s.length : Int))))) := hown1; have HG1 : Hid (wr.grownBy w1 (some w.heap.size)) := hgrow1; clear hown1 hgrow1)
          | (at_builtin; refine wpList_append_own _ rfl _ _ 25 rfl (w.heap.size + 1) 3 i0 (.int .i64 0) 1 8 Try.underlying25 hi hz0 hz1 hz2 rfl (by decide) (.slice ko s.length kc) s.length (iv s) rfl (iown_alloc (iown_old HI.out.row HG1.out) _) ⟨w1.heap.size, 0, none⟩ 1 1 [.int .i64 a] rfl rfl (cell_one1 _ _) (by intro x hx; simp at hx; subst hx; rfl) (by unfold maxLen; omega) (by omega) (by have h1 := HI.out.size; have h2 := HG1.out.size; simp; omega) ?_; intro v' w2 hown2 hgrow2 _; have HR2 : Hid (w2.ownsRow (w.heap.size + 1) 3 1 v' (s.length + 1) (iv s ++ [.int .i64 a])) := hown2; have HG2 : Hid ((w1.alloc (.cells #[.int .i64 a] 3)).grownBy w2 (Value.slice ko s.length kc).ownBlock) := hgrow2; clear hown2 hgrow2; obtain ⟨vo, vc, hv2⟩ := iown_slice HR2.out; subst hv2))
        refine ⟨⟨k + 1, vo, vc, by omega, by go_num, by rw [HSE.out, List.length_append]; rfl, ?_⟩, by simp [intOf]; omega⟩
        rw [HSE.out]
        have hrow : (w1.alloc (.cells #[.int .i64 a] 3)).ownsRow (w.heap.size + 1) 3 1 (.slice ko s.length kc) s.length (iv s) := iown_alloc (iown_old HI.out.row HG1.out) _
        have hnb : ∀ k, some k = (Value.slice ko s.length kc).ownBlock → w.heap.size + 1 ≤ k := fun k e => (hrow.lt k e.symm).1
        refine ⟨?_, ⟨_, (HM1.out.alloc _).kept HG2.out (fun e => by have := hnb _ e; omega), HMP.out.2.add HV.out⟩, ?_, ?_⟩
        · rw [iv_append, List.length_append]
          exact HR2.out
        · exact below_g ((below_g HI.out.below HG1.out (fun k e => by have := Option.some.inj e; omega)).alloc (by have := HG1.out.size; have := HI.out.size; omega) _) HG2.out (fun k e => by have := hnb k e; omega)
        · have h1 := HG2.out.size
          have h2 := HG1.out.size
          have h3 := HI.out.size
          simp at h1
          omega
    · obtain rfl : k = xs.length := by omega
      rw [List.take_length] at hI ⊢
      have HI : Hid (SI w w.heap.size (simpS xs) xs.length ko kc wr) := hI
      clear hI
      go_wp2
      go_ret
      exact ⟨ko, kc, rfl, iown_base0 HI.out.row, HI.out.below⟩
end Go.Proofs.Ytefcmpdnlbpjpaa
