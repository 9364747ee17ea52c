/- walk.Back and viaductref09.Back: the list turned about, in memory of its own. -/
import Derived.Test.YtdfjmfgbdnpkbaaDoorWkB
namespace Go.Proofs.YtdfjmfgbdnpkbaaDoor
open Go.RowKit Go.Extern

attribute [local go_sem] Oper.semAt_some

/-- what is answered: a list in memory of its own. -/
def LA (w : World) (ys : List Int) (e : Ending) (w' : World) : Prop := ∃ so sc, e = .returned (.slice so ys.length sc) ∧ w'.ownsRow w.heap.size 3 1 (.slice so ys.length sc) ys.length (iv ys) ∧ Below w.heap.size w w'
theorem reverse_any (B sc : Nat) (so : Option Addr) (zs : List Int) (w : World) (h : w.ownsRow B 3 1 (.slice so zs.length sc) zs.length (iv zs)) (hm : zs.length ≤ 9223372036854775807) (hB : w.heap.size ≤ w.heap.size) :
    Calls Tryd.prog 39 #[.slice so zs.length sc] w fun e w' => e = .returned (.tuple #[]) ∧ w'.ownsRow B 3 1 (.slice so zs.length sc) zs.length (iv zs.reverse) ∧ w.grownBy w' (Value.slice so zs.length sc).ownBlock := by
  rcases h.2 with ⟨e, h0⟩ | ⟨g, cap, cur, e, _⟩
  · injection e with e1 e2 e3
    subst e1
    subst e3
    have hz : zs = [] := List.eq_nil_of_length_eq_zero h0
    subst hz
    refine (Any.slices_Reverse_int_empty Tryd.rv none 0 w).mono ?_
    rintro e w' ⟨he, rfl⟩
    exact ⟨he, World.ownsRow_nil _ _ _ _, ⟨rfl, rfl, rfl, Nat.le_refl _, fun _ _ _ => rfl⟩⟩
  · injection e with e1 e2 e3
    subst e1
    subst e3
    exact reverse_own B g sc zs w h hm

set_option maxRecDepth 100000 in
set_option maxHeartbeats 1000000 in
theorem back_calls (lo : Option Addr) (lc : Nat) (xs : List Int) (w : World) (hl : HasInts w (.slice lo xs.length lc) xs) (hs : ∀ a, lo = some a → a.spot = none) (hm : xs.length * 8 ≤ 140737488351232) :
    Calls Tryd.prog 20 #[.slice lo xs.length lc] w (LA w xs.reverse) := by
  have HC : Hid (type_of% (clone_any lo lc xs w hl hs hm)) := clone_any lo lc xs w hl hs hm
  clear hl hs
  go_enter Tryd.func20, Tryd.ntmps20
  go_wp2_with fail
  refine HC.out.mono ?_
  rintro e w1 ⟨so, sc, rfl, ho, h⟩
  have H1 : Hid (w1.ownsRow w.heap.size 3 1 (.slice so xs.length sc) xs.length (iv xs) ∧ Below w.heap.size w w1) := ⟨ho, h⟩
  clear ho h
  go_wp2_with fail
  refine (reverse_any w.heap.size sc so xs w1 H1.out.1 (by omega) (Nat.le_refl _)).mono ?_
  rintro e w2 ⟨rfl, ho, hg⟩
  have H2 : Hid (w2.ownsRow w.heap.size 3 1 (.slice so xs.length sc) xs.length (iv xs.reverse) ∧ Below w.heap.size w w2) := ⟨ho, below_g H1.out.2 hg (fun k e => (H1.out.1.lt k e.symm).1)⟩
  clear ho hg
  go_wp2
  go_ret
  refine ⟨so, sc, congrArg (fun n : Nat => Ending.returned (.slice so n sc)) List.length_reverse.symm, ?_, H2.out.2⟩
  rw [List.length_reverse]
  exact H2.out.1

set_option maxRecDepth 100000 in
set_option maxHeartbeats 1000000 in
theorem rBack_calls (lo : Option Addr) (lc : Nat) (xs : List Int) (w : World) (hl : HasInts w (.slice lo xs.length lc) xs) (hm : xs.length * 8 ≤ 140737488351232) :
    Calls Tryd.prog 21 #[.slice lo xs.length lc] w (LA w xs.reverse) := by
  have HL : Hid (HasInts w (.slice lo xs.length lc) xs) := hl
  obtain ⟨i0, hi, hz0, hz1, hz2⟩ : ∃ i, Tryd.prog.info? 3 = some i ∧ i.zero = some (.int .i64 0) ∧ i.size = 1 ∧ i.bytes = 8 := by
    have h := infoJ
    cases hi : Tryd.prog.info? 3 with
    | none => rw [hi] at h; cases h
    | some i => rw [hi] at h; simp at h; exact ⟨i, rfl, h.1, h.2.1, h.2.2⟩
  have hw0 : IntKind.i64.wrap ((xs.length : Int) - 1) = (xs.length : Int) - 1 := by rw [IntKind.wrap_i64] <;> omega
  clear hl
  go_enter Tryd.func21, Tryd.ntmps21
  go_wp2_with fail
  go_loopw [3, 4] (fun bv jv wr => ∃ (k : Nat) (ko : Option Addr) (kc : Nat), k ≤ xs.length ∧ jv = .int .i64 ((xs.length : Int) - 1 - k) ∧ bv = .slice ko k kc ∧ wr.ownsRow w.heap.size 3 1 (.slice ko k kc) k (iv (xs.reverse.take k)) ∧ Below w.heap.size w wr) (fun _ jv _ => (intOf jv + 1).toNat)
  case atStart => exact ⟨0, none, 0, Nat.zero_le _, by simp, rfl, World.ownsRow_nil _ _ _ _, Below.refl _ _⟩
  case round =>
    obtain ⟨k, ko, kc, hk, rfl, rfl, hrow, hbe⟩ := hrel
    have HI : Hid (wr.ownsRow w.heap.size 3 1 (.slice ko k kc) k (iv (xs.reverse.take k)) ∧ Below w.heap.size w wr) := ⟨hrow, hbe⟩
    by_cases hlt : k < xs.length
    · obtain ⟨m, hmk⟩ : ∃ m : Nat, (xs.length : Int) - 1 - k = (m : Int) := ⟨xs.length - 1 - k, by omega⟩
      obtain ⟨a, ha⟩ : ∃ a, xs[m]? = some a := ⟨xs[m], List.getElem?_eq_getElem (by omega)⟩
      obtain ⟨b, off, hao, hbl, q0⟩ := HL.out.at ha
      subst hao
      have e0 := (hbe.cell (p := ⟨b, off + m, none⟩) hbl).trans q0
      have hbw : b < wr.heap.size := Nat.lt_of_lt_of_le hbl hbe.size
      have HTK : Hid (iv (xs.reverse.take (k + 1)) = iv (xs.reverse.take k) ++ [.int .i64 a]) := by
        have h : xs.reverse[k]? = some a := by
          rw [List.getElem?_reverse hlt, show xs.length - 1 - k = m by omega]
          exact ha
        show iv _ = _
        rw [take_snoc h, iv_append]
        rfl
      have hw1 : IntKind.i64.wrap ((m : Int) - 1) = (m : Int) - 1 := by rw [IntKind.wrap_i64] <;> omega
      have m0 : (0 : Int) ≤ (m : Int) := by omega
      have m1 : (m : Int) < (xs.length : Int) := by omega
      have HMK : Hid ((xs.length : Int) - 1 - k = (m : Int)) := hmk
      rw [hmk]
      clear hrow hbe q0 ha hmk
      go_wp2_with (at_builtin; refine wpList_append_own _ rfl _ _ 22 rfl w.heap.size 3 i0 (.int .i64 0) 1 8 Tryd.underlying22 hi hz0 hz1 hz2 rfl (by decide) (.slice ko k kc) k (iv (xs.reverse.take k)) rfl (iown_alloc HI.out.1 _) ⟨wr.heap.size, 0, none⟩ 1 1 [.int .i64 a] rfl rfl (cell_one1 _ _) (by intro x hx; simp at hx; subst hx; rfl) (by unfold maxLen; omega) (by omega) (by have h1 := HI.out.2.size; simp; omega) ?_; intro v' w2 hown2 hgrow2 _; have HR2 : Hid (w2.ownsRow w.heap.size 3 1 v' (k + 1) (iv (xs.reverse.take k) ++ [.int .i64 a])) := hown2; have HG2 : Hid ((wr.alloc (.cells #[.int .i64 a] 3)).grownBy w2 (Value.slice ko k kc).ownBlock) := hgrow2; clear hown2 hgrow2; obtain ⟨vo, vc, hv2⟩ := iown_slice HR2.out; subst hv2)
      have hmk := HMK.out
      have hrow := iown_alloc HI.out.1 (.cells #[.int .i64 a] 3)
      refine ⟨⟨k + 1, vo, vc, by omega, ?_, rfl, ?_, below_g (HI.out.2.alloc HI.out.2.size _) HG2.out (fun k e => (hrow.lt k e.symm).1)⟩, ?_⟩
      · congr 1; omega
      · rw [HTK.out]; exact HR2.out
      · simp [intOf]
    · obtain rfl : k = xs.length := by omega
      have hneg : (xs.length : Int) - 1 - (xs.length : Int) = -1 := by omega
      have HE : Hid (xs.reverse.take xs.length = xs.reverse) := by show _ = _; rw [← List.length_reverse, List.take_length]
      rw [hneg]
      clear hrow hbe hneg
      go_wp2
      go_ret
      refine ⟨ko, kc, congrArg (fun n : Nat => Ending.returned (.slice ko n kc)) List.length_reverse.symm, ?_, HI.out.2⟩
      have h := HI.out.1
      rw [HE.out] at h
      rw [List.length_reverse]
      exact h
end Go.Proofs.YtdfjmfgbdnpkbaaDoor
