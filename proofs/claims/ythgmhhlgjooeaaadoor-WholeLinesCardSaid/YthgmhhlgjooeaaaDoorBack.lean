/- slices.Backward over a list of places: what it hands to the loop's body, the last place first. -/
import Derived.RangeFuncBox
import Derived.RangeFuncNested
import Derived.RangeFuncLeaves
import Derived.Shelf.Abstract
import Derived.WalkKit
import Derived.OwnWalkIn
import Derived.TacticsInMore
import Derived.LoopNIn
import Derived.LoopIn
import Derived.Test.YthgmhhlgjooeaaaDoorTold
namespace Go.Proofs.YthgmhhlgjooeaaaDoor.F1
open Go.RowKit Go.Extern Go.Shelf

attribute [local go_sem] Oper.semAt_some

/-- what has come when k rounds are over: the last k places, the last first, each with its index. -/
def come (qs : List (Int × Int)) (k : Nat) : List (Nat × (Int × Int)) := (List.range k).map fun j => (qs.length - 1 - j, qs[qs.length - 1 - j]?.getD (0, 0))
theorem come_succ {qs : List (Int × Int)} {k : Nat} {p : Int × Int} (h : qs[qs.length - 1 - k]? = some p) : come qs (k + 1) = come qs k ++ [(qs.length - 1 - k, p)] := by
  simp [come, List.range_succ, h]
theorem come_length (qs : List (Int × Int)) (k : Nat) : (come qs k).length = k := by simp [come]
/-- a yield's two arguments. -/
def backs (x : Nat × (Int × Int)) : Array Value := #[.int .i64 (x.1 : Int), .agg #[.int .i64 x.2.1, .int .i64 x.2.2]]

/-- the blocks of B lie as they lay. -/
def Stays (B : Nat → Prop) (W W' : World) : Prop := ∀ b, B b → W'.heap[b]? = W.heap[b]?
theorem Stays.refl (B : Nat → Prop) (W : World) : Stays B W W := fun _ _ => rfl
theorem Stays.trans {B : Nat → Prop} {A C D : World} (h : Stays B A C) (k : Stays B C D) : Stays B A D := fun b hb => (k b hb).trans (h b hb)
theorem Stays.cell {B : Nat → Prop} {W W' : World} (h : Stays B W W') {p : Addr} (hp : B p.block) : W'.cell? p = W.cell? p := by
  simp [World.cell?, h _ hp]

set_option maxRecDepth 100000 in
set_option maxHeartbeats 2000000 in
theorem back1_in (F : Fence) (n : Nat) (h52 : F.fn 36) (hro : F.round = none) (hn : 1 ≤ n) (l Bs : Nat) (B : Nat → Prop) (ao : Option Addr) (cap : Nat) (qs : List (Int × Int)) (hlen : qs.length ≤ 64) (hB0 : B Bs) (hB1 : ∀ a, ao = some a → B a.block) (J Jx : List (Nat × (Int × Int)) → World → Prop)
    (hY : ∀ pre x W, J pre W → pre.length < qs.length → YieldAt F (n - 1) Tryd.prog l (backs x) W fun e W' =>
      (e = .returned (.bool true) ∧ J (pre ++ [x]) W' ∧ Stays B W W') ∨ (e = .returned (.bool false) ∧ Jx (pre ++ [x]) W'))
    (W : World) (hBs : W.cell? ⟨Bs, 0, none⟩ = some (.slice ao qs.length cap)) (hl : HasPlaces W (.slice ao qs.length cap) qs) (h0 : J [] W) :
    CallsIn F n Tryd.prog 36 #[.func (.yield l) #[] #[], .pointer (some ⟨Bs, 0, none⟩)] W fun e W' => (∃ v, e = .returned v) ∧
      ((∃ ys, ys = come qs qs.length ∧ J ys W') ∨ (∃ pre, (∃ k, k ≤ qs.length ∧ pre = come qs k) ∧ Jx pre W')) := by
  have HL : Hid (HasPlaces W (.slice ao qs.length cap) qs) := hl
  clear hl
  refine callsIn_of_wp Tryd.func36 rfl h52 ?_ hro
  simp only [Tryd.ntmps36, List.size_toArray, List.length_cons, List.length_nil, Nat.reduceAdd, Nat.reduceSub, Array.replicate_succ, Array.replicate_zero, List.push_toArray, List.append_toArray, List.nil_append, List.cons_append]
  gi_wp2
  gi_loopw [3] (fun i wr => ∃ k : Nat, k ≤ qs.length ∧ i = .int .i64 ((qs.length : Int) - 1 - k) ∧ J (come qs k) wr ∧ Stays B W wr)
    (fun i _ => (intOf i + 1).toNat)
  case atStart => exact ⟨0, Nat.zero_le _, by simp, h0, Stays.refl _ _⟩
  case round =>
    obtain ⟨k, hk, rfl, hJs, hnx⟩ := hrel
    have c0 := (hnx.cell (p := ⟨Bs, 0, none⟩) hB0).trans hBs
    by_cases hlt : k < qs.length
    · obtain ⟨p, hp⟩ : ∃ p, qs[qs.length - 1 - k]? = some p := ⟨qs[qs.length - 1 - k], List.getElem?_eq_getElem (by omega)⟩
      obtain ⟨b, off, hao, hbl, q0, q1⟩ := places_at HL.out hp
      subst hao
      have c1 := (hnx.cell (p := ⟨b, off + (qs.length - 1 - k) * 2, none⟩) (hB1 ⟨b, off, none⟩ rfl)).trans q0
      have c2 := (hnx.cell (p := ⟨b, off + (qs.length - 1 - k) * 2 + 1, none⟩) (hB1 ⟨b, off, none⟩ rfl)).trans q1
      obtain ⟨fn, tmps, assign, body, hy, hR⟩ := hY _ (qs.length - 1 - k, p) wr hJs (by rw [come_length]; exact hlt)
      have HCS : Hid (come qs (k + 1) = come qs k ++ [(qs.length - 1 - k, p)]) := come_succ hp
      clear q0 q1
      obtain ⟨i, hi⟩ : ∃ i, qs.length - 1 - k = i := ⟨_, rfl⟩
      have hiz : (qs.length : Int) - 1 - k = i := by omega
      rw [hi] at c1 c2 hy hp
      rw [hiz]
      have hil : i < qs.length := by omega
      have hi0 : (0 : Int) ≤ i := by omega
      dsimp only [backs] at hy
      gi_wp2
      refine hR.mono ?_
      rintro e W3 (⟨rfl, hJ3, hk3⟩ | ⟨rfl, hJx3⟩)
      · gi_wp2
        go_roundw
        case rel => exact ⟨k + 1, by omega, by have : (qs.length : Int) - 1 - (k + 1 : Nat) = (i : Int) - 1 := by omega
                                               rw [this], by rw [HCS.out]; exact hJ3, hnx.trans hk3⟩
        case measure => simp [intOf]
      · gi_wp2
        refine bodyPost_ret (results_none rfl _ _ _) rfl ?_
        exact ⟨⟨_, rfl⟩, .inr ⟨_, ⟨k + 1, by omega, HCS.out.symm⟩, hJx3⟩⟩
    · obtain rfl : k = qs.length := by omega
      have hiz : (qs.length : Int) - 1 - (qs.length : Nat) = -1 := by omega
      rw [hiz]
      gi_wp2
      go_end0
      exact ⟨⟨_, rfl⟩, .inl ⟨_, rfl, hJs⟩⟩

set_option maxHeartbeats 1000000 in
/-- slices.Backward(s): the slice value is boxed; the function value captures the box. -/
theorem back_in (F : Fence) (n : Nat) (h42 : F.fn 22) (hro : F.round = none) (a : Option Addr) (len cap : Nat) (w : World) :
    CallsIn F n Tryd.prog 22 #[.slice a len cap] w fun e w' => e = .returned (.func (.func 36) #[] #[.pointer (some ⟨w.heap.size, 0, none⟩)]) ∧ w' = w.alloc (.cells #[.slice a len cap] 34) := by
  refine callsIn_of_wp Tryd.func22 rfl h42 ?_ hro
  simp only [Tryd.ntmps22, List.size_toArray, List.length_cons, List.length_nil, Nat.reduceAdd, Nat.reduceSub, Array.replicate_succ, Array.replicate_zero, List.push_toArray, List.append_toArray, List.nil_append, List.cons_append]
  gi_wp2
  go_ret
  exact ⟨rfl, rfl⟩

theorem back_stops (F : Fence) (n : Nat) (h52 : F.fn 36) (hro : F.round = none) (hn : 1 ≤ n) (Bs : Nat) (ao : Option Addr) (cap : Nat) (qs : List (Int × Int)) (hlen : qs.length ≤ 64) (w : World) (hBs : Bs < w.heap.size) (hc : w.cell? ⟨Bs, 0, none⟩ = some (.slice ao qs.length cap)) (hl : HasPlaces w (.slice ao qs.length cap) qs) :
    SeqStopsK F n Tryd.prog 36 #[.pointer (some ⟨Bs, 0, none⟩)] backs (Stays fun b => b = Bs ∨ ∃ a, ao = some a ∧ a.block = b) (fun ys => ys = come qs qs.length) (fun pre => ∃ k, k ≤ qs.length ∧ pre = come qs k) qs.length w := fun l J Jx W hW _ _ hY h0 =>
  back1_in F n h52 hro hn l Bs _ ao cap qs hlen (.inl rfl) (fun a h => .inr ⟨a, h, rfl⟩) J Jx hY W ((hW.cell (p := ⟨Bs, 0, none⟩) hBs).trans hc) (hl.keep hW) h0
end Go.Proofs.YthgmhhlgjooeaaaDoor.F1
