/- The law StampAges, walked: two of them, with unlike first ages, answer alike for ever. -/
import Derived.Test.YtlgdhoemjllfdaaOpsM
import Derived.Deep.DeepCutAuto
namespace Go.Proofs.Ytlgdhoemjllfdaa
open Go.RowKit

attribute [local go_sem] Oper.semAt_some

/-- what a call makes of what is held. -/
def stepO (n : Nat) (vs : List (Option Int)) (o : Op3) : List (Option Int) := if o.1 = 1 ∧ 0 ≤ o.2.1 ∧ o.2.1 < n then vs.set o.2.1.toNat (some o.2.2) else vs
/-- what is held behind calls. -/
def foldO (n : Nat) (l : List Op3) : List (Option Int) := l.foldl (stepO n) (List.replicate n none)
theorem foldO_len (n : Nat) (l : List Op3) : (foldO n l).length = n := by
  have h : ∀ (l : List Op3) (vs : List (Option Int)), (l.foldl (stepO n) vs).length = vs.length := by
    intro l
    induction l with
    | nil => intro vs; rfl
    | cons a r ih =>
      intro vs
      rw [List.foldl_cons, ih]
      unfold stepO
      split
      · rw [List.length_set]
      · rfl
  unfold foldO
  rw [h, List.length_replicate]
theorem foldO_snoc (n : Nat) (l : List Op3) (o : Op3) : foldO n (l ++ [o]) = stepO n (foldO n l) o := by
  unfold foldO
  rw [List.foldl_append]
  rfl

/-- two stamps that hold the same. -/
structure TS (w wr : World) (sb pb tb qb n : Nat) (vs : List (Option Int)) : Prop where
  s : IsStamp wr sb pb n vs
  t : IsStamp wr tb qb n vs
  ap : tb ≠ sb ∧ tb ≠ pb ∧ qb ≠ sb ∧ qb ≠ pb
  base : w.heap.size ≤ sb ∧ w.heap.size ≤ pb ∧ w.heap.size ≤ tb ∧ w.heap.size ≤ qb
  below : Below w.heap.size w wr
section
variable {w wr w' : World} {sb pb tb qb n : Nat} {vs : List (Option Int)}
theorem TS.later (h : TS w wr sb pb tb qb n vs) (hb : Below wr.heap.size wr w') : TS w w' sb pb tb qb n vs := ⟨h.s.below hb, h.t.below hb, h.ap, h.base, h.below.trans (hb.mono h.below.size)⟩
theorem TS.tAt (h : TS w wr sb pb tb qb n vs) (hf : Fr sb pb wr w') : IsStamp w' tb qb n vs := h.t.keep fun k hk e => hf.block k hk (by rcases e with rfl | rfl; exact h.ap.1; exact h.ap.2.2.1) (by rcases e with rfl | rfl; exact h.ap.2.1; exact h.ap.2.2.2)
theorem TS.both {w1 w2 : World} {vs' : List (Option Int)} (h : TS w wr sb pb tb qb n vs) (h1 : IsStamp w1 sb pb n vs' ∧ Fr sb pb wr w1) (h2 : IsStamp w2 tb qb n vs' ∧ Fr tb qb w1 w2) : TS w w2 sb pb tb qb n vs' := by
  obtain ⟨b0, b1, b2, b3⟩ := h.base
  obtain ⟨a0, a1, a2, a3⟩ := h.ap
  have hs := h.below.size
  have hs1 := h1.2.size
  refine ⟨h1.1.keep fun k hk e => h2.2.block k hk ?_ ?_, h2.1, h.ap, h.base, (h.below.trans (h1.2.below hs b0 b1)).trans (h2.2.below (by omega) b2 b3)⟩
  · rcases e with rfl | rfl
    · exact Ne.symm a0
    · exact Ne.symm a1
  · rcases e with rfl | rfl
    · exact Ne.symm a2
    · exact Ne.symm a3
end

/-- what a place holds behind calls. -/
def look (n : Nat) (l : List Op3) (i : Int) : Option Int := if 0 ≤ i ∧ i < n then ((foldO n l)[i.toNat]?).join else none
theorem look_snoc (n : Nat) (l : List Op3) (p : Op3) (i : Int) : look n (l ++ [p]) i = if p.1 = 1 ∧ p.2.1 = i ∧ 0 ≤ i ∧ i < n then some p.2.2 else look n l i := by
  unfold look
  by_cases hr : 0 ≤ i ∧ i < n
  · rw [if_pos hr, if_pos hr, foldO_snoc]
    have hl := foldO_len n l
    unfold stepO
    by_cases h1 : p.1 = 1 ∧ 0 ≤ p.2.1 ∧ p.2.1 < n
    · rw [if_pos h1]
      by_cases h2 : p.2.1 = i
      · rw [if_pos ⟨h1.1, h2, hr⟩, h2, set_same _ (by omega)]
        rfl
      · rw [if_neg (fun h => h2 h.2.1), set_other _ (by omega)]
    · rw [if_neg h1, if_neg]
      rintro ⟨a, b, c⟩
      exact h1 ⟨a, by omega, by omega⟩
  · rw [if_neg hr, if_neg hr, if_neg (fun h => hr h.2.2)]
theorem look_nil (n : Nat) (i : Int) : look n [] i = none := by
  unfold look foldO
  split
  · rename_i h
    rw [List.foldl_nil, List.getElem?_replicate, if_pos (by omega)]
    rfl
  · rfl
/-- Get's answer, told by what was set. -/
theorem get_look {w : World} {sb pb n : Nat} {l : List Op3} (h : IsStamp w sb pb n (foldO n l)) (i : Int) : Calls Try.prog 10 #[.pointer (some ⟨sb, 0, none⟩), .int .i64 i] w fun e w' => e = .returned (.tuple #[.int .u64 ((look n l i).getD 0), .bool (look n l i).isSome]) ∧ Below w.heap.size w w' := by
  unfold look
  by_cases hr : 0 ≤ i ∧ i < n
  · rw [if_pos hr]
    obtain ⟨q, rfl⟩ : ∃ q : Nat, i = q := ⟨i.toNat, by omega⟩
    rw [Int.toNat_natCast]
    obtain ⟨o, ho⟩ : ∃ o, (foldO n l)[q]? = some o := ⟨(foldO n l)[q]'(by rw [foldO_len]; omega), List.getElem?_eq_getElem _⟩
    refine (get_in h q o ho).mono fun e w' ⟨he, hb⟩ => ⟨?_, hb⟩
    rw [he, ho]
    cases o <;> rfl
  · rw [if_neg hr]
    exact (get_far h i (by omega)).mono fun e w' ⟨he, hw⟩ => ⟨he, by rw [hw]; exact Below.refl _ _⟩
theorem Try.elemOps : Try.prog.underlying 23 = some (.slice (Try.prog.elem 23)) := by kernel_rfl
theorem Try.sizeOps (w : World) : (sizeOf (Try.prog.elem 23)).run Try.prog w = .ok 3 w := by kernel_rfl
/-- 'script[last:at]'. -/
theorem slice_mid (w : World) (b off m cap lo hi : Nat) (h1 : lo ≤ hi) (h2 : hi < cap) : (Instr.slice 23 (.slice (some ⟨b, off, none⟩) m cap) (some (.int .i64 (lo : Int))) (some (.int .i64 (hi : Int))) none).run Try.prog w = .ok (.slice (some ⟨b, off + lo * 3, none⟩) (hi - lo) (cap - lo)) w := by
  rw [run_slice_lh (ht := Try.elemOps) (h0 := by omega) (h1 := by omega) (h2 := by omega), Try.sizeOps]
  simp only [Result.andThen_ok, sliced, Int.toNat_natCast]
  rw [if_neg (by omega)]
  simp [Addr.add]

set_option maxRecDepth 100000 in
set_option maxHeartbeats 8000000 in
theorem ages_calls (n : Nat) (h1 : 1 ≤ n) (h2 : n ≤ 100) (a b : Int) (a0 : 0 ≤ a) (a1 : a ≤ 4294967295) (b0 : 0 ≤ b) (b1 : b ≤ 4294967295) (so : Option Addr) (m sc : Nat) (L : List Op3) (w : World) (ho : HasOps w (.slice so m sc) L) (hlen : L.length = m) (hm : m ≤ maxLen) (hc : m ≤ sc) (hcm : sc ≤ maxLen) : Calls Try.prog 3 #[.int .i64 n, .int .u32 a, .int .u32 b, .slice so m sc] w fun e w' => e = .returned (.bool true) ∧ Below w.heap.size w w' := by
  unfold maxLen at hm hcm
  have HO : Hid (HasOps w (.slice so m sc) L ∧ L.length = m) := ⟨ho, hlen⟩
  have HAW : Hid (type_of% (awake_calls w)) := awake_calls w
  have HNa : Hid (∀ wx, type_of% (new_calls n (by omega) a a0 a1 wx)) := fun wx => new_calls n (by omega) a a0 a1 wx
  have HNb : Hid (∀ wx, type_of% (new_calls n (by omega) b b0 b1 wx)) := fun wx => new_calls n (by omega) b b0 b1 wx
  have g1 : ¬ (n : Int) < 1 := by omega
  have g2 : ¬ (100 : Int) < (n : Int) := by omega
  clear ho hlen
  go_enter Try.func3, Try.ntmps3
  go_wp2_with fail
  refine HAW.out.mono ?_
  rintro e w1 ⟨rfl, hb1⟩
  have BW1 : Hid (Below w.heap.size w w1) := hb1
  clear hb1
  go_wp2_with fail
  refine (HNa.out _).mono ?_
  rintro e w2 ⟨rfl, hI2, hb2⟩
  obtain ⟨pb, hpb⟩ : ∃ pb, w1.heap.size = pb := ⟨_, rfl⟩
  rw [hpb] at hI2 ⊢
  have PB : Hid (w.heap.size ≤ pb) := by rw [← hpb]; exact BW1.out.size
  have I2 : Hid (IsStamp w2 (pb + 1) pb n (List.replicate n none) ∧ Below w.heap.size w w2) := ⟨hI2, BW1.out.trans (hb2.mono BW1.out.size)⟩
  clear hpb hI2 hb2
  go_wp2_with fail
  refine (HNb.out _).mono ?_
  rintro e w3 ⟨rfl, hI3, hb3⟩
  obtain ⟨qb, hqb⟩ : ∃ qb, w2.heap.size = qb := ⟨_, rfl⟩
  rw [hqb] at hI3 ⊢
  have I3 : Hid (TS w w3 (pb + 1) pb (qb + 1) qb n (foldO n [])) := by
    have l := I2.out.1.lt
    have s2 := I2.out.2.size
    have p := PB.out
    exact ⟨I2.out.1.below hb3, hI3, by refine ⟨?_, ?_, ?_, ?_⟩ <;> omega, by refine ⟨?_, ?_, ?_, ?_⟩ <;> omega, I2.out.2.trans (hb3.mono s2)⟩
  clear hqb hI3 hb3
  go_wp2_with fail
  go_loopw [13, 54] (fun lv iv wr => ∃ (k lst : Nat), k ≤ m ∧ lst ≤ k ∧ iv = .int .i64 k ∧ lv = .int .i64 lst ∧ TS w wr (pb + 1) pb (qb + 1) qb n (foldO n ((L.drop lst).take (k - lst)))) (fun _ iv _ => m - (intOf iv).toNat)
  case atStart => exact ⟨0, 0, Nat.zero_le _, Nat.le_refl _, rfl, rfl, by simpa using I3.out⟩
  case round =>
    obtain ⟨k, lst, hk, hlk, rfl, rfl, hI⟩ := hrel
    have HI : Hid (TS w wr (pb + 1) pb (qb + 1) qb n (foldO n ((L.drop lst).take (k - lst)))) := hI
    clear hI
    by_cases hlt : k < m
    · obtain ⟨o, hx⟩ : ∃ o, L[k]? = some o := ⟨L[k]'(by have := HO.out.2; omega), List.getElem?_eq_getElem _⟩
      obtain ⟨kd, i, x⟩ := o
      obtain ⟨bb, off, hao, hbl, q0, q1, q2⟩ := HO.out.1.at hx
      subst hao
      have e0 := (HI.out.below.cell (p := ⟨bb, off + k * 3, none⟩) hbl).trans q0
      have e1 := (HI.out.below.cell (p := ⟨bb, off + k * 3 + 1, none⟩) hbl).trans q1
      have e2 := (HI.out.below.cell (p := ⟨bb, off + k * 3 + 2, none⟩) hbl).trans q2
      simp only at e0 e1 e2
      have hseg : (L.drop lst).take (k + 1 - lst) = (L.drop lst).take (k - lst) ++ [(kd, i, x)] := by
        rw [show k + 1 - lst = k - lst + 1 by omega]
        have hg : (L.drop lst)[k - lst]? = some (kd, i, x) := by rw [List.getElem?_drop, show lst + (k - lst) = k by omega]; exact hx
        obtain ⟨hl', he'⟩ := List.getElem?_eq_some_iff.1 hg
        rw [List.take_succ_eq_append_getElem hl', he']
      have HSEG : Hid ((L.drop lst).take (k + 1 - lst) = (L.drop lst).take (k - lst) ++ [(kd, i, x)] ∧ ((L.drop lst).take (k - lst)).length = k - lst) := ⟨hseg, by rw [List.length_take, List.length_drop]; have := HO.out.2; omega⟩
      have HSG : Hid (∀ j (p : Op3), ((L.drop lst).take (k - lst))[j]? = some p → ∀ wx, Below w.heap.size w wx → wx.cell? ⟨bb, off + lst * 3 + j * 3, none⟩ = some (.int .u8 p.1) ∧ wx.cell? ⟨bb, off + lst * 3 + j * 3 + 1, none⟩ = some (.int .i64 p.2.1) ∧ wx.cell? ⟨bb, off + lst * 3 + j * 3 + 2, none⟩ = some (.int .u64 p.2.2)) := fun j p hj wx hb => by
        rw [List.getElem?_take] at hj
        split at hj
        · rw [List.getElem?_drop] at hj
          obtain ⟨b', off', e, hl', r0, r1, r2⟩ := HO.out.1.at hj
          cases e
          have ee : off + (lst + j) * 3 = off + lst * 3 + j * 3 := by omega
          rw [ee] at r0 r1 r2
          exact ⟨(hb.cell (p := ⟨bb, _, none⟩) hl').trans r0, (hb.cell (p := ⟨bb, _, none⟩) hl').trans r1, (hb.cell (p := ⟨bb, _, none⟩) hl').trans r2⟩
        · cases hj
      have b0' : (0 : Int) ≤ (k : Int) := by omega
      have b1' : (k : Int) < (m : Int) := by omega
      clear hx q0 q1 q2 hseg
      generalize (L.drop lst).take (k - lst) = seg at *
      have HP5 : Hid (∀ W5, wr.alloc (.cells #[.int .u8 kd, .int .i64 i, .int .u64 x] 32) = W5 → TS w W5 (pb + 1) pb (qb + 1) qb n (foldO n seg) ∧ W5.heap[wr.heap.size]? = some (.cells #[.int .u8 kd, .int .i64 i, .int .u64 x] 32) ∧ wr.heap.size ≠ pb + 1 ∧ wr.heap.size ≠ pb ∧ wr.heap.size ≠ qb + 1 ∧ wr.heap.size ≠ qb) := fun W5 e => by
        have k0 := heap_new wr (.cells #[.int .u8 kd, .int .i64 i, .int .u64 x] 32)
        have hB := (Below.refl _ wr).alloc (Nat.le_refl _) (.cells #[.int .u8 kd, .int .i64 i, .int .u64 x] 32)
        rw [e] at k0 hB
        obtain ⟨l0, l1, _, _, _⟩ := HI.out.s.lt
        obtain ⟨l2, l3, _, _, _⟩ := HI.out.t.lt
        exact ⟨HI.out.later hB, k0, by omega, by omega, by omega, by omega⟩
      go_upto_region 13 with fail
      generalize hW5 : wr.alloc (.cells #[.int .u8 kd, .int .i64 i, .int .u64 x] 32) = W5
      have hP5 := HP5.out W5 hW5
      clear hW5 HP5
      generalize wr.heap.size = ob at *
      have P5 : Hid (TS w W5 (pb + 1) pb (qb + 1) qb n (foldO n seg) ∧ W5.heap[ob]? = some (.cells #[.int .u8 kd, .int .i64 i, .int .u64 x] 32) ∧ ob ≠ pb + 1 ∧ ob ≠ pb ∧ ob ≠ qb + 1 ∧ ob ≠ qb) := hP5
      clear hP5 e0 e1 e2 HI
      obtain ⟨o0, o1, o2, _⟩ := trip_cells P5.out.2.1
      have HK : Hid (∀ wx, Below W5.heap.size W5 wx → wx.cell? ⟨ob, 0, none⟩ = some (.int .u8 kd) ∧ wx.cell? ⟨ob, 1, none⟩ = some (.int .i64 i) ∧ wx.cell? ⟨ob, 2, none⟩ = some (.int .u64 x) ∧ ob < wx.heap.size) := fun wx h => trip_cells ((h.block ob (lt_of_get P5.out.2.1)).trans P5.out.2.1)
      rcases (show kd = 1 ∨ (¬ kd = 1 ∧ kd = 3) ∨ (¬ kd = 1 ∧ ¬ kd = 3) by omega) with rfl | ⟨hk1, rfl⟩ | ⟨hk1, hk3⟩
      · by_cases hr : 0 ≤ i ∧ i < n
        · obtain ⟨i, rfl⟩ : ∃ q : Nat, i = q := ⟨i.toNat, by omega⟩
          have hin : i < n := by omega
          have HV : Hid (foldO n ((L.drop lst).take (k + 1 - lst)) = (foldO n seg).set i (some x)) := by
            show _ = _
            rw [HSEG.out.1, foldO_snoc]
            unfold stepO
            rw [if_pos ⟨rfl, by simp only; omega, by simp only; omega⟩]
            rfl
          have T1 : Hid (∀ wx, Below W5.heap.size W5 wx → Calls Try.prog 8 #[.pointer (some ⟨pb + 1, 0, none⟩), .int .i64 i, .int .u64 x] wx fun e w' => e = .returned .nilIface ∧ IsStamp w' (pb + 1) pb n ((foldO n seg).set i (some x)) ∧ Fr (pb + 1) pb W5 w' ∧ w'.heap[ob]? = some (.cells #[.int .u8 1, .int .i64 i, .int .u64 x] 32)) := fun wx h => (set_calls (P5.out.1.later h).s i hin x).mono fun e w' ⟨he, h1, h2⟩ => by
            have hf := (Fr.of_below (sb := pb + 1) (pb := pb) h).trans h2
            exact ⟨he, h1, hf, (hf.block ob (lt_of_get P5.out.2.1) P5.out.2.2.1 P5.out.2.2.2.1).trans P5.out.2.1⟩
          have T2 : Hid (∀ wx, IsStamp wx (pb + 1) pb n ((foldO n seg).set i (some x)) → Fr (pb + 1) pb W5 wx → wx.heap[ob]? = some (.cells #[.int .u8 1, .int .i64 i, .int .u64 x] 32) → Calls Try.prog 8 #[.pointer (some ⟨qb + 1, 0, none⟩), .int .i64 i, .int .u64 x] wx fun e w' => e = .returned .nilIface ∧ TS w w' (pb + 1) pb (qb + 1) qb n ((foldO n seg).set i (some x)) ∧ w'.heap[ob]? = some (.cells #[.int .u8 1, .int .i64 i, .int .u64 x] 32)) := fun wx h1 h2 h3 => (set_calls (P5.out.1.tAt h2) i hin x).mono fun e w' ⟨he, h4, h5⟩ => ⟨he, P5.out.1.both ⟨h1, h2⟩ ⟨h4, h5⟩, (h5.block ob (lt_of_get h3) P5.out.2.2.2.2.1 P5.out.2.2.2.2.2).trans h3⟩
          have g0 : (0 : Int) ≤ (i : Int) := by omega
          have g3 : (i : Int) < (n : Int) := by omega
          have tok1 : True := trivial
          have tok2 : True := trivial
          go_wp2_with fail
          go_region_held3 (fun w' => w'.cell? ⟨ob, 1, none⟩ = some (.int .i64 i) ∧ w'.cell? ⟨ob, 2, none⟩ = some (.int .u64 x)) (go_keep) (first
            | (go_at_call 8; have _t := tok1; clear _t tok1; refine (T1.out _ (Below.refl _ _).drew).mono ?_; rintro e w6 ⟨rfl, h6, hf6, ho6⟩; have I6 : Hid (IsStamp w6 (pb + 1) pb n ((foldO n seg).set i (some x)) ∧ Fr (pb + 1) pb W5 w6 ∧ w6.heap[ob]? = some (.cells #[.int .u8 1, .int .i64 i, .int .u64 x] 32)) := ⟨h6, hf6, ho6⟩; obtain ⟨_, d1, d2, _⟩ := trip_cells ho6; clear h6 hf6 ho6)
            | (go_at_call 8; have _t := tok2; clear _t tok2; refine (T2.out _ I6.out.1 I6.out.2.1 I6.out.2.2).mono ?_; rintro e w7 ⟨rfl, h7, ho7⟩; have I7 : Hid (TS w w7 (pb + 1) pb (qb + 1) qb n ((foldO n seg).set i (some x)) ∧ w7.heap[ob]? = some (.cells #[.int .u8 1, .int .i64 i, .int .u64 x] 32)) := ⟨h7, ho7⟩; obtain ⟨_, f1, f2, _⟩ := trip_cells ho7; clear h7 ho7))
          go_wp2_with fail
          go_quiet (fail)
          go_wp2
          go_roundw
          case rel => exact ⟨k + 1, lst, by omega, by omega, by go_num, rfl, by rw [HV.out]; exact I7.out.1.later (below_draws (Below.refl _ _) _)⟩
          case measure => simp [intOf]; omega
        · have hfar : i < 0 ∨ (n : Int) ≤ i := by omega
          have HV : Hid (foldO n ((L.drop lst).take (k + 1 - lst)) = foldO n seg) := by
            show _ = _
            rw [HSEG.out.1, foldO_snoc]
            unfold stepO
            rw [if_neg]
            rintro ⟨_, h1, h2⟩
            exact hr ⟨h1, h2⟩
          have T1 : Hid (∀ wx, Below W5.heap.size W5 wx → Calls Try.prog 8 #[.pointer (some ⟨pb + 1, 0, none⟩), .int .i64 i, .int .u64 x] wx fun e w' => e = .returned (.iface 55 (.int .i64 7)) ∧ w' = wx) := fun wx h => set_far (P5.out.1.later h).s i hfar x
          have T2 : Hid (∀ wx, Below W5.heap.size W5 wx → Calls Try.prog 8 #[.pointer (some ⟨qb + 1, 0, none⟩), .int .i64 i, .int .u64 x] wx fun e w' => e = .returned (.iface 55 (.int .i64 7)) ∧ w' = wx) := fun wx h => set_far (P5.out.1.later h).t i hfar x
          have tok1 : True := trivial
          have tok2 : True := trivial
          have hcase : (i < 0) ∨ (∃ _ : (0 : Int) ≤ i, (n : Int) ≤ i) := (Int.lt_or_le i 0).elim Or.inl fun h => Or.inr ⟨h, by omega⟩
          go_wp2_with fail
          go_region_held3 (fun w' => w'.cell? ⟨ob, 1, none⟩ = some (.int .i64 i) ∧ w'.cell? ⟨ob, 2, none⟩ = some (.int .u64 x)) (go_keep) (first
            | (go_at_call 8; have _t := tok1; clear _t tok1; refine (T1.out _ (Below.refl _ _).drew).mono ?_; rintro e w6 ⟨rfl, h6⟩; have I6 : Hid (Below W5.heap.size W5 w6) := (by rw [h6]; exact (Below.refl _ _).drew); obtain ⟨_, d1, d2, _⟩ := HK.out w6 I6.out; clear h6)
            | (go_at_call 8; have _t := tok2; clear _t tok2; refine (T2.out _ I6.out).mono ?_; rintro e w7 ⟨rfl, h7⟩; have I7 : Hid (Below W5.heap.size W5 w7) := (by rw [h7]; exact I6.out); obtain ⟨_, f1, f2, _⟩ := HK.out w7 I7.out; clear h7))
          rcases hcase with hc1 | ⟨hc1, hc2⟩
          · have z1 : decide ((0 : Int) ≤ i) = false := decide_eq_false (by omega)
            go_wp2_with fail
            go_quiet (fail)
            go_wp2
            go_roundw
            case rel => exact ⟨k + 1, lst, by omega, by omega, by go_num, rfl, by rw [HV.out]; exact (P5.out.1.later I7.out).later (below_draws (Below.refl _ _) _)⟩
            case measure => simp [intOf]; omega
          · have z1 : decide (i < (n : Int)) = false := decide_eq_false (by omega)
            go_wp2_with fail
            go_quiet (fail)
            go_wp2
            go_roundw
            case rel => exact ⟨k + 1, lst, by omega, by omega, by go_num, rfl, by rw [HV.out]; exact (P5.out.1.later I7.out).later (below_draws (Below.refl _ _) _)⟩
            case measure => simp [intOf]; omega
      · have T1 : Hid (type_of% (reset_calls P5.out.1.s)) := reset_calls P5.out.1.s
        go_wp2_with fail
        refine T1.out.mono ?_
        rintro e w6 ⟨rfl, h6⟩
        have I6 : Hid (IsStamp w6 (pb + 1) pb n (List.replicate n none) ∧ Fr (pb + 1) pb W5 w6) := h6
        have T2 : Hid (type_of% (reset_calls (P5.out.1.tAt h6.2))) := reset_calls (P5.out.1.tAt h6.2)
        clear h6 o0 o1 o2
        go_wp2_with fail
        refine T2.out.mono ?_
        rintro e w7 ⟨rfl, h7⟩
        have I7 : Hid (TS w w7 (pb + 1) pb (qb + 1) qb n (List.replicate n none)) := P5.out.1.both I6.out h7
        clear h7
        go_wp2
        go_roundw
        case rel => exact ⟨k + 1, k + 1, by omega, by omega, by go_num, rfl, by rw [Nat.sub_self, List.take_zero]; exact I7.out⟩
        case measure => simp [intOf]; omega
      · have g1 : (kd == 1) = false := by simpa using hk1
        have g2' : (kd == 3) = false := by simpa using hk3
        have HV : Hid (foldO n ((L.drop lst).take (k + 1 - lst)) = foldO n seg) := by
          show _ = _
          rw [HSEG.out.1, foldO_snoc]
          unfold stepO
          rw [if_neg (fun h => hk1 h.1)]
        have T1 : Hid (type_of% (get_look P5.out.1.s i)) := get_look P5.out.1.s i
        have T2 : Hid (∀ wx, Below W5.heap.size W5 wx → Calls Try.prog 10 #[.pointer (some ⟨qb + 1, 0, none⟩), .int .i64 i] wx fun e w' => e = .returned (.tuple #[.int .u64 ((look n seg i).getD 0), .bool (look n seg i).isSome]) ∧ Below wx.heap.size wx w') := fun wx h => get_look (P5.out.1.later h).t i
        obtain ⟨LK, hLK⟩ : ∃ LK, look n seg i = LK := ⟨_, rfl⟩
        rw [hLK] at T1 T2
        have hsl := fun wx => slice_mid wx bb off m sc lst k hlk (Nat.lt_of_lt_of_le hlt hc)
        go_wp2_with fail
        refine T1.out.mono ?_
        rintro e w6 ⟨rfl, h6⟩
        have I6 : Hid (Below W5.heap.size W5 w6) := h6
        clear o0 o1 o2
        obtain ⟨o0, o1, o2, _⟩ := HK.out w6 h6
        clear h6
        go_wp2_with fail
        refine (T2.out _ I6.out).mono ?_
        rintro e w7 ⟨rfl, h7⟩
        have I7 : Hid (Below W5.heap.size W5 w7) := I6.out.trans (h7.mono I6.out.size)
        clear o0 o1 o2 h7
        obtain ⟨o0, o1, o2, _⟩ := HK.out w7 I7.out
        have HLK : Hid (look n seg i = LK) := hLK
        clear hLK
        go_wp2_with fail
        generalize hW1 : w7 = W1 at *
        clear hW1
        go_loopw [22, 23, 80] (fun sv nv jv wx => ∃ j : Nat, j ≤ k - lst ∧ jv = .int .i64 j ∧ sv = .bool (look n (seg.take j) i).isSome ∧ nv = .int .u64 ((look n (seg.take j) i).getD 0) ∧ Below W5.heap.size W5 wx) (fun _ _ jv _ => (k - lst) - (intOf jv).toNat)
        case atStart => exact ⟨0, Nat.zero_le _, rfl, by rw [List.take_zero, look_nil]; rfl, by rw [List.take_zero, look_nil]; rfl, I7.out⟩
        case round =>
          obtain ⟨j, hj, rfl, rfl, rfl, hB⟩ := hrel
          clear o0 o1 o2
          obtain ⟨o0, o1, o2, lo⟩ := HK.out wr hB
          have HB : Hid (Below W5.heap.size W5 wr) := hB
          by_cases hjl : j < k - lst
          · obtain ⟨p, hp⟩ : ∃ p, seg[j]? = some p := ⟨seg[j]'(by have := HSEG.out.2; omega), List.getElem?_eq_getElem _⟩
            obtain ⟨c0, c1, c2⟩ := HSG.out j p hp wr (P5.out.1.below.trans (hB.mono P5.out.1.below.size))
            have HT : Hid (look n (seg.take (j + 1)) i = if p.1 = 1 ∧ p.2.1 = i ∧ 0 ≤ i ∧ i < n then some p.2.2 else look n (seg.take j) i) := by
              show _ = _
              obtain ⟨hl', he'⟩ := List.getElem?_eq_some_iff.1 hp
              rw [List.take_succ_eq_append_getElem hl', he', look_snoc]
            obtain ⟨pk, pi, px⟩ := p
            simp only at c0 c1 c2 HT
            have HP8 : Hid (∀ W8, wr.alloc (.cells #[.int .u8 pk, .int .i64 pi, .int .u64 px] 32) = W8 → Below W5.heap.size W5 W8 ∧ W8.heap[wr.heap.size]? = some (.cells #[.int .u8 pk, .int .i64 pi, .int .u64 px] 32)) := fun W8 e => by
              have k0 := heap_new wr (.cells #[.int .u8 pk, .int .i64 pi, .int .u64 px] 32)
              have hB := (Below.refl _ wr).alloc (Nat.le_refl _) (.cells #[.int .u8 pk, .int .i64 pi, .int .u64 px] 32)
              rw [e] at k0 hB
              exact ⟨HB.out.trans (hB.mono HB.out.size), k0⟩
            generalize look n (seg.take j) i = lk at *
            have j0 : (0 : Int) ≤ (j : Int) := by omega
            have j1 : (j : Int) < ((k - lst : Nat) : Int) := by omega
            clear hp hB
            go_upto_region 20 with fail
            generalize hW8 : wr.alloc (.cells #[.int .u8 pk, .int .i64 pi, .int .u64 px] 32) = W8
            obtain ⟨hB8, h8⟩ := HP8.out W8 hW8
            clear hW8 HP8 c0 c1 c2 o0 o1 o2 lo
            obtain ⟨o0, o1, o2, lo⟩ := HK.out W8 hB8
            obtain ⟨c0, c1, c2, lc⟩ := trip_cells h8
            generalize wr.heap.size = ub at *
            have HB8 : Hid (Below W5.heap.size W5 W8) := hB8
            clear hB8 h8 HB
            rcases (show (¬ pk = 1) ∨ (pk = 1 ∧ ¬ pi = i) ∨ (pk = 1 ∧ pi = i ∧ i < 0) ∨ (pk = 1 ∧ pi = i ∧ ¬ i < 0 ∧ (n : Int) ≤ i) ∨ (pk = 1 ∧ pi = i ∧ 0 ≤ i ∧ i < n) by omega) with hq | ⟨rfl, hq⟩ | ⟨rfl, rfl, hq⟩ | ⟨rfl, rfl, hq0, hq⟩ | ⟨rfl, rfl, hq0, hq⟩
            · have u1 : (pk == 1) = false := by simpa using hq
              rw [if_neg (fun h => hq h.1)] at HT
              go_wp2
              go_roundw
              case rel => exact ⟨j + 1, by omega, by go_num, by rw [HT.out], by rw [HT.out], HB8.out⟩
              case measure => simp [intOf]; omega
            · have u1 : (pi == i) = false := by simpa using hq
              rw [if_neg (fun h => hq h.2.1)] at HT
              go_wp2
              go_roundw
              case rel => exact ⟨j + 1, by omega, by go_num, by rw [HT.out], by rw [HT.out], HB8.out⟩
              case measure => simp [intOf]; omega
            · have u1 : decide ((0 : Int) ≤ pi) = false := decide_eq_false (by omega)
              rw [if_neg (fun h => by omega)] at HT
              go_wp2
              go_roundw
              case rel => exact ⟨j + 1, by omega, by go_num, by rw [HT.out], by rw [HT.out], HB8.out⟩
              case measure => simp [intOf]; omega
            · have u1 : decide (pi < (n : Int)) = false := decide_eq_false (by omega)
              have u2 : (0 : Int) ≤ pi := by omega
              rw [if_neg (fun h => by omega)] at HT
              go_wp2
              go_roundw
              case rel => exact ⟨j + 1, by omega, by go_num, by rw [HT.out], by rw [HT.out], HB8.out⟩
              case measure => simp [intOf]; omega
            · rw [if_pos ⟨rfl, rfl, hq0, hq⟩] at HT
              go_wp2_with fail
              go_region_held3 (fun w' => w'.cell? ⟨ub, 2, none⟩ = some (.int .u64 px)) (go_keep) (first | fail)
              go_wp2
              go_roundw
              case rel => exact ⟨j + 1, by omega, by go_num, by rw [HT.out]; rfl, by rw [HT.out]; rfl, HB8.out.drew⟩
              case measure => simp [intOf]; omega
          · obtain rfl : j = k - lst := by omega
            have HE : Hid (look n (seg.take (k - lst)) i = LK) := by show _ = _; rw [← HSEG.out.2, List.take_length]; exact HLK.out
            rw [HE.out]
            clear hB
            go_wp2
            exact ⟨⟨k + 1, lst, by omega, by omega, by go_num, rfl, by rw [HV.out]; exact P5.out.1.later HB.out⟩, by simp [intOf]; omega⟩
    · obtain rfl : k = m := by omega
      have hvl : (foldO n ((L.drop lst).take (k - lst))).length = n := foldO_len _ _
      generalize foldO n ((L.drop lst).take (k - lst)) = vs at *
      obtain ⟨A, hA⟩ : ∃ A, allB 0 (vs.map Option.isSome) = A := ⟨_, rfl⟩
      have hAl : A.length ≤ 65536 := by have h1 := allB_len 0 (vs.map Option.isSome); rw [hA, List.length_map] at h1; omega
      have HA : Hid (allB 0 (vs.map Option.isSome) = A) := hA
      clear hA
      have T1 : Hid (∀ sb pb wx, IsStamp wx sb pb n vs → Calls Try.prog 12 #[.pointer (some ⟨sb, 0, none⟩)] wx fun e w' => ∃ so sc, e = .returned (.slice so A.length sc) ∧ HasInts w' (.slice so A.length sc) A ∧ Below wx.heap.size wx w') := fun sb pb wx h => by
        refine (all_calls h).mono ?_
        rintro e w' ⟨sv, rfl, hr, hb⟩
        rw [HA.out] at hr
        obtain ⟨so, sc, rfl⟩ := row_slice hr
        exact ⟨so, sc, rfl, ints_of_row hr, hb⟩
      have T2 : Hid (∀ sb pb wx, IsStamp wx sb pb n vs → Calls Try.prog 13 #[.pointer (some ⟨sb, 0, none⟩)] wx fun e w' => e = .returned (.int .i64 (cnt vs : Nat)) ∧ w' = wx) := fun sb pb wx h => len_calls h
      have T3 : Hid (∀ wx av bv, HasInts wx av A → HasInts wx bv A → Calls Try.prog 11 #[av, bv] wx fun e w' => e = .returned (.bool true) ∧ Below wx.heap.size wx w') := fun wx av bv h1 h2 => sameInts_yes av bv A wx h1 h2 (by unfold maxLen; omega)
      go_wp2_with fail
      refine (T1.out (pb + 1) pb _ HI.out.s).mono ?_
      rintro e w6 ⟨po, pc, rfl, hp6, h6⟩
      have I6 : Hid (TS w w6 (pb + 1) pb (qb + 1) qb n vs ∧ HasInts w6 (.slice po A.length pc) A) := ⟨HI.out.later h6, hp6⟩
      clear h6 hp6
      go_wp2_with fail
      refine (T1.out (qb + 1) qb _ I6.out.1.t).mono ?_
      rintro e w7 ⟨ro, rc, rfl, hp7, h7⟩
      have I7 : Hid (TS w w7 (pb + 1) pb (qb + 1) qb n vs ∧ HasInts w7 (.slice po A.length pc) A ∧ HasInts w7 (.slice ro A.length rc) A) := ⟨I6.out.1.later h7, I6.out.2.keep h7, hp7⟩
      clear h7 hp7
      go_wp2_with fail
      refine (T3.out _ _ _ I7.out.2.1 I7.out.2.2).mono ?_
      rintro e w8 ⟨rfl, h8⟩
      have I8 : Hid (TS w w8 (pb + 1) pb (qb + 1) qb n vs) := I7.out.1.later h8
      clear h8
      go_wp2_with fail
      refine (T2.out (pb + 1) pb _ I8.out.s).mono ?_
      rintro e w9 ⟨rfl, h⟩
      subst h
      go_wp2_with fail
      refine (T2.out (qb + 1) qb _ I8.out.t).mono ?_
      rintro e w10 ⟨rfl, h⟩
      subst h
      go_wp2
      go_ret
      exact ⟨rfl, I8.out.below⟩
end Go.Proofs.Ytlgdhoemjllfdaa
