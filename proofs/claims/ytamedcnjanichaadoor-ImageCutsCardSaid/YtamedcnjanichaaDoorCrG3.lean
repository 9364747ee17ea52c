/- check sums, beside CrG2: bits that are turned over (viaductref17.Burst). -/
import Derived.Test.YtamedcnjanichaaDoorCrX
namespace Go.Proofs.YtamedcnjanichaaDoor
open Go.RowKit Go.Extern Cr

attribute [local go_sem] Oper.semAt_some u32_signed u32_max

theorem mul_xor (t a b : Nat) : 2 ^ t * (a ^^^ b) = (2 ^ t * a) ^^^ (2 ^ t * b) := by
  rw [Nat.mul_comm, Nat.mul_comm _ a, Nat.mul_comm _ b, ← Nat.shiftLeft_eq, ← Nat.shiftLeft_eq, ← Nat.shiftLeft_eq, Nat.shiftLeft_xor_distrib]
theorem pow_lt8 {y : Nat} (h : y < 8) : 2 ^ y < 256 := Nat.pow_lt_pow_right (m := y) (n := 8) (by omega) h
theorem xor_bit8 {a y : Nat} (ha : a < 256) (hy : y < 8) : bits .xor .u8 (a : Int) ((2 : Int) ^ y % 256) = ((a ^^^ 2 ^ y : Nat) : Int) := by
  have h := pow_lt8 hy
  have e : (2 : Int) ^ y = ((2 ^ y : Nat) : Int) := by simp
  have h2 : ((2 ^ y : Nat) : Int) < 256 := Int.ofNat_lt.2 h
  rw [e, Int.emod_eq_of_lt (Int.natCast_nonneg _) h2, u8_xor_nat a _ ha h]
theorem bts_set {q : List Nat} (h : Bts q) {v : Nat} (hv : v < 256) (x : Nat) : Bts (q.set x v) := fun u hu => by
  rcases List.mem_or_eq_of_mem_set hu with h' | rfl
  · exact h u h'
  · exact hv
/-- one bit more is turned over. -/
theorem flip_more {l q : List Nat} {t m k x y a : Nat} (hq : Bts q) (hn : num q = num l ^^^ (2 ^ t * m)) (hm : m < 2 ^ k) (hd : t + k = 8 * x + y) (hy : y < 8) (ha : q[x]? = some a) :
    (q.set x (a ^^^ 2 ^ y)).length = q.length ∧ Bts (q.set x (a ^^^ 2 ^ y)) ∧ num (q.set x (a ^^^ 2 ^ y)) = num l ^^^ (2 ^ t * (m + 2 ^ k)) ∧ m + 2 ^ k < 2 ^ (k + 1) ∧ m + 2 ^ k ≠ 0 := by
  have hx := (List.getElem?_eq_some_iff.1 ha).1
  have hp : 0 < 2 ^ k := Nat.pow_pos (by omega)
  refine ⟨List.length_set, bts_set hq (Nat.xor_lt_two_pow (n := 8) (bts_at hq ha) (pow_lt8 hy)) _, ?_, by rw [Nat.pow_succ]; omega, by omega⟩
  have hf := num_flip (j := y) hx hq
  rw [List.getD_eq_getElem?_getD, ha, Option.getD_some] at hf
  rcases hf with hf | hf
  · have e := xor_split k m 1 hm
    rw [Nat.mul_one] at e
    rw [hf, hn, ← e, mul_xor, ← Nat.pow_add, hd, Nat.xor_assoc]
  · omega
theorem num_inj : ∀ {p q : List Nat}, Bts p → Bts q → p.length = q.length → num p = num q → p = q
  | [], [], _, _, _, _ => rfl
  | [], _ :: _, _, _, h, _ => by simp at h
  | _ :: _, [], _, _, h, _ => by simp at h
  | a :: p, b :: q, hp, hq, hl, h => by
    obtain ⟨ha, hp'⟩ := hp.cons
    obtain ⟨hb, hq'⟩ := hq.cons
    have h' : a + 256 * num p = b + 256 * num q := h
    have e1 : a = b := by omega
    have e2 : num p = num q := by omega
    rw [e1, num_inj hp' hq' (by simpa using hl) e2]
def BurstPost (w : World) (l : List Nat) (e : Ending) (w' : World) : Prop := ∃ mo mc q tu, e = .returned (.tuple #[.slice mo l.length mc, .bool tu]) ∧ w'.ownsRow w.heap.size 5 1 (.slice mo l.length mc) l.length (bv q) ∧ Below w.heap.size w w' ∧ Bts q ∧ q.length = l.length ∧ (tu = true → fits l = true → fits q = false) ∧ (tu = false → q = l)

set_option maxRecDepth 100000 in
set_option maxHeartbeats 1000000 in
theorem kBurst_calls (lo : Option Addr) (lc : Nat) (l : List Nat) (at_ : Int) (mask : Nat) (w : World) (hl : HasB w (.slice lo l.length lc) l) (hb : Bts l) (hm : l.length ≤ 140737488355328) (hc : lo = none → lc = 0) :
    Calls Tryd.prog 16 #[.slice lo l.length lc, .int .i64 at_, .int .u32 (mask : Int)] w fun e w' => BurstPost w l e w' := by
  have eT := kTwin_calls lo lc l w hl hm hc
  by_cases ha : at_ < 0 ∨ 8 * (l.length : Int) ≤ at_
  · have HN : Hid (at_ < 0 ∨ 8 * (l.length : Int) ≤ at_) := ha
    have HBt : Hid (Bts l) := hb
    rcases ha with ha | ha
    all_goals go_enter Tryd.func16, Tryd.ntmps16
    all_goals go_wp2_with (go_at_call 14; refine eT.mono ?_; rintro e w1 ⟨mo, mc, rfl, hown1, hb1⟩; have H1 : Hid (w1.ownsRow w.heap.size 5 1 (.slice mo l.length mc) l.length (bv l) ∧ Below w.heap.size w w1) := ⟨hown1, hb1⟩; clear hown1 hb1)
    all_goals go_ret2
    all_goals unfold BurstPost
    all_goals exact ⟨mo, mc, l, false, rfl, H1.out.1, H1.out.2, HBt.out, rfl, (fun h => by cases h), fun _ => rfl⟩
  · obtain ⟨t, rfl⟩ : ∃ t : Nat, at_ = t := ⟨at_.toNat, by omega⟩
    have ht : t < 8 * l.length := by omega
    have hn : 0 < l.length := by omega
    have i0 : ¬ ((t : Int) < 0) := by omega
    have i1 : (t : Int) < 8 * (l.length : Int) := by omega
    have HF : Hid (Bts l) := hb
    clear ha hl hc
    go_enter Tryd.func16, Tryd.ntmps16
    go_wp2_with (go_at_call 14; refine eT.mono ?_; rintro e w1 ⟨mo, mc, rfl, hown1, hb1⟩; have H1 : Hid (w1.ownsRow w.heap.size 5 1 (.slice mo l.length mc) l.length (bv l) ∧ Below w.heap.size w w1) := ⟨hown1, hb1⟩; clear hown1 hb1)
    obtain ⟨g, cap, hv, hgB, _⟩ := bown_at H1.out.1 hn
    injection hv with hv1 hv2 hv3
    subst hv1 hv3
    go_loopw [9, 10] (fun tv nv wr => ∃ (k m : Nat) (q : List Nat), k ≤ 32 ∧ nv = .int .i64 k ∧ tv = .bool (decide (m ≠ 0)) ∧ m < 2 ^ k ∧ q.length = l.length ∧ Bts q ∧ num q = num l ^^^ (2 ^ t * m) ∧ wr.ownsRow w.heap.size 5 1 (.slice (some ⟨g, 0, none⟩) l.length mc) l.length (bv q) ∧ Below w.heap.size w wr) (fun _ nv _ => 32 - (intOf nv).toNat)
    case atStart => exact ⟨0, 0, l, by omega, rfl, rfl, by decide, rfl, hb, by rw [Nat.mul_zero, Nat.xor_zero], H1.out.1, H1.out.2⟩
    case round =>
      obtain ⟨k, m, q, hk, rfl, rfl, hmk2, hql, hqb, hnum, hO, hB⟩ := hrel
      by_cases hlt : k < 32
      · have HH : Hid (m < 2 ^ k ∧ q.length = l.length ∧ Bts q ∧ num q = num l ^^^ (2 ^ t * m) ∧ wr.ownsRow w.heap.size 5 1 (.slice (some ⟨g, 0, none⟩) l.length mc) l.length (bv q) ∧ Below w.heap.size w wr) := ⟨hmk2, hql, hqb, hnum, hO, hB⟩
        clear hmk2 hqb hnum hO hB
        by_cases hin : t + k < 8 * l.length
        · obtain ⟨a, ha⟩ : ∃ a, q[(t + k) / 8]? = some a := ⟨q[(t + k) / 8]'(by omega), List.getElem?_eq_getElem _⟩
          have ha8 := bts_at HH.out.2.2.1 ha
          obtain ⟨g', c', hv, _, hgl, hfz, hcell⟩ := bown_at HH.out.2.2.2.2.1 hn
          injection hv with hv1 _ hv3
          injection hv1 with hv1
          injection hv1 with hv1
          subst hv1 hv3
          have c0 := hcell _ _ ha
          have f0 := hfz ((t + k) / 8)
          have d1 : ((t : Int) + (k : Int)).tdiv 8 = (((t + k) / 8 : Nat) : Int) := by rw [Int.tdiv_eq_ediv_of_nonneg (by omega)]; omega
          have d3 : ((t : Int) + (k : Int)) / 8 = (((t + k) / 8 : Nat) : Int) := by omega
          have d2 : ((t : Int) + (k : Int)).tmod 8 = (((t + k) % 8 : Nat) : Int) := by rw [Int.tmod_eq_emod_of_nonneg (by omega)]; omega
          have hx8 : (t + k) / 8 < l.length := by omega
          have hy8 : (t + k) % 8 < 8 := by omega
          have HD : Hid (t + k = 8 * ((t + k) / 8) + (t + k) % 8) := (by omega : t + k = 8 * ((t + k) / 8) + (t + k) % 8)
          have HA : Hid (q[(t + k) / 8]? = some a) := ha
          clear hcell hfz ha
          generalize (t + k) / 8 = x at *
          generalize (t + k) % 8 = y at *
          have hwr : IntKind.i64.wrap ((t : Int) + (k : Int)) = (t : Int) + (k : Int) := by rw [IntKind.wrap_i64] <;> omega
          have hwx : IntKind.i64.wrap (x : Int) = (x : Int) := by rw [IntKind.wrap_i64] <;> omega
          have i5 : (x : Int) < (l.length : Int) := by omega
          have i50 : (0 : Int) ≤ (x : Int) := by omega
          have i7 : (0 : Int) ≤ (y : Int) := by omega
          have i8 : (y : Int) ≤ 8 := by omega
          have e1 := xor_bit8 ha8 hy8
          have HFM : Hid (type_of% (flip_more HH.out.2.2.1 HH.out.2.2.2.1 HH.out.1 HD.out hy8 HA.out)) := flip_more HH.out.2.2.1 HH.out.2.2.2.1 HH.out.1 HD.out hy8 HA.out
          by_cases hyes : ((mask : Int) / 2 ^ k).tmod 2 = 1
          · have i6 : (k : Int) < 8 * (l.length : Int) - (t : Int) := by omega
            go_wp2_with fail
            go_region
            go_wp2
            go_roundw
            case rel => exact ⟨k + 1, m + 2 ^ k, q.set x (a ^^^ 2 ^ y), by omega, by rw [show (k : Int) + 1 = ((k + 1 : Nat) : Int) by omega], by rw [decide_eq_true HFM.out.2.2.2.2], HFM.out.2.2.2.1, HFM.out.1.trans HH.out.2.1, HFM.out.2.1, HFM.out.2.2.1, bown_keep (bown_set HH.out.2.2.2.2.1 (a ^^^ 2 ^ y)) (fun _ _ => rfl), (below_set HH.out.2.2.2.2.2 hgB _ _).drew⟩
            case measure => simp only [intOf]; omega
          · go_wp2_with fail
            all_goals exact ⟨⟨k + 1, m, q, by omega, by rw [show (k : Int) + 1 = ((k + 1 : Nat) : Int) by omega], by simp, Nat.lt_of_lt_of_le HH.out.1 (Nat.pow_le_pow_right (by omega) (by omega)), HH.out.2.1, HH.out.2.2.1, HH.out.2.2.2.1, HH.out.2.2.2.2.1, HH.out.2.2.2.2.2⟩, by simp only [intOf]; omega⟩
        · have i9 : 8 * (l.length : Int) - (t : Int) ≤ (k : Int) := by omega
          go_wp2_with fail
          all_goals exact ⟨⟨k + 1, m, q, by omega, by rw [show (k : Int) + 1 = ((k + 1 : Nat) : Int) by omega], by simp, Nat.lt_of_lt_of_le HH.out.1 (Nat.pow_le_pow_right (by omega) (by omega)), HH.out.2.1, HH.out.2.2.1, HH.out.2.2.2.1, HH.out.2.2.2.2.1, HH.out.2.2.2.2.2⟩, by simp only [intOf]; omega⟩
      · obtain rfl : k = 32 := by omega
        have HE : Hid (decide (m ≠ 0) = true → fits l = true → fits q = false) := fun h1 h2 => burst_seen HF.out hqb hql hmk2 ht hnum (of_decide_eq_true h1) h2
        have HE2 : Hid (decide (m ≠ 0) = false → q = l) := fun h1 => by
          have h2 : m = 0 := Decidable.not_not.1 (of_decide_eq_false h1)
          rw [h2, Nat.mul_zero, Nat.xor_zero] at hnum
          exact num_inj hqb HF.out hql hnum
        have HH : Hid (Bts q ∧ q.length = l.length ∧ wr.ownsRow w.heap.size 5 1 (.slice (some ⟨g, 0, none⟩) l.length mc) l.length (bv q) ∧ Below w.heap.size w wr) := ⟨hqb, hql, hO, hB⟩
        clear hmk2 hql hqb hnum hO hB
        generalize decide (m ≠ 0) = tu at *
        go_wp2_with fail
        go_ret2
        unfold BurstPost
        exact ⟨_, mc, q, tu, rfl, HH.out.2.2.1, HH.out.2.2.2, HH.out.1, HH.out.2.1, HE.out, HE2.out⟩
end Go.Proofs.YtamedcnjanichaaDoor
