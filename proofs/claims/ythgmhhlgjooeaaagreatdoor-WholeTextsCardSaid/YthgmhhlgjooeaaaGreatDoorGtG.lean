/- gtext's take: the words of the next row, walked. -/
import Derived.Test.YthgmhhlgjooeaaaGreatDoorGtF
namespace Go.Proofs.YthgmhhlgjooeaaaGreatDoor.Gt
open Go Go.Lib Go.RowKit Go.Extern

attribute [local go_sem] Oper.semAt_some

theorem Tryz.elemR : Tryz.prog.underlying 70 = some (.slice (Tryz.prog.elem 70)) := by kernel_rfl
theorem Tryz.sizeR (w : World) : (sizeOf (Tryz.prog.elem 70)).run Tryz.prog w = .ok 2 w := by kernel_rfl
/-- rows, in a block. -/
def RcAt (w : World) (b : Nat) (Q : List Rw) : Prop := ∃ cur : Array Value, w.heap[b]? = some (.cells cur 115) ∧ ∀ (j : Nat) (q : Rw), Q[j]? = some q → cur[j * 2]? = some (.int .i64 (q.1 : Int)) ∧ cur[j * 2 + 1]? = some (.slice (some ⟨q.2.1, 0, none⟩) q.2.2.length q.2.2.length)
/-- a reader at a place of the rows. -/
structure Rd (w : World) (rb : Nat) (Q : List Rw) (k line : Nat) : Prop where
  box : ∃ (ro : Option Addr) (rc : Nat), w.heap[rb]? = some (.cells #[.slice ro (Q.length - k) rc, .int .i64 (line : Int)] 74) ∧ Q.length - k ≤ rc ∧ (k < Q.length → ∃ b, ro = some ⟨b, k * 2, none⟩ ∧ RcAt w b Q)
  wds : ∀ q ∈ Q, StAt w q
  few : ∀ q ∈ Q, Few q
/-- all but one block is as it was. -/
structure Off (rb : Nat) (w w' : World) : Prop where
  os : w'.os = w.os
  tape : w'.tape = w.tape
  output : w'.output = w.output
  size : w.heap.size ≤ w'.heap.size
  block : ∀ j, j < w.heap.size → j ≠ rb → w'.heap[j]? = w.heap[j]?
theorem Off.below {rb B : Nat} {w w' : World} (h : Off rb w w') (hB : B ≤ rb) (hs : B ≤ w.heap.size) : Below B w w' := ⟨h.os, h.tape, h.output, h.size, fun j hj => h.block j (by omega) (by omega)⟩
theorem Off.trans {rb : Nat} {a b c : World} (h : Off rb a b) (k : Off rb b c) : Off rb a c := ⟨k.os.trans h.os, k.tape.trans h.tape, k.output.trans h.output, Nat.le_trans h.size k.size, fun j hj hn => (k.block j (Nat.lt_of_lt_of_le hj h.size) hn).trans (h.block j hj hn)⟩
theorem Off.of {rb : Nat} {a b : World} (h : Below a.heap.size a b) : Off rb a b := ⟨h.os, h.tape, h.output, h.size, fun j hj _ => h.block j hj⟩
theorem str_ne2 : 9 ≠ 74 := by decide
theorem row_ne2 : 115 ≠ 74 := by decide
theorem StAt.off {rb : Nat} {w w' : World} {q : Rw} {c : Array Value} (h : StAt w q) (ho : Off rb w w') (hr : w.heap[rb]? = some (.cells c 74)) : StAt w' q := by
  obtain ⟨cur, h1, h2⟩ := h
  refine ⟨cur, (ho.block _ (Array.getElem?_eq_some_iff.1 h1).1 (fun e => ?_)).trans h1, h2⟩
  rw [e, hr] at h1
  injection h1 with h1
  injection h1 with _ h1
  exact str_ne2 h1.symm
theorem RcAt.off {rb b : Nat} {w w' : World} {Q : List Rw} {c : Array Value} (h : RcAt w b Q) (ho : Off rb w w') (hr : w.heap[rb]? = some (.cells c 74)) : RcAt w' b Q := by
  obtain ⟨cur, h1, h2⟩ := h
  refine ⟨cur, (ho.block _ (Array.getElem?_eq_some_iff.1 h1).1 (fun e => ?_)).trans h1, h2⟩
  rw [e, hr] at h1
  injection h1 with h1
  injection h1 with _ h1
  exact row_ne2 h1.symm
theorem Rd.keep {rb k line : Nat} {w w' : World} {Q : List Rw} (h : Rd w rb Q k line) (hb : Below w.heap.size w w') : Rd w' rb Q k line := by
  obtain ⟨ro, rc, h1, h2, h3⟩ := h.box
  refine ⟨⟨ro, rc, (hb.block _ (Array.getElem?_eq_some_iff.1 h1).1).trans h1, h2, fun hk => ?_⟩, fun q hq => (h.wds q hq).keep hb, h.few⟩
  obtain ⟨b, e, cur, g1, g2⟩ := h3 hk
  exact ⟨b, e, cur, (hb.block _ (Array.getElem?_eq_some_iff.1 g1).1).trans g1, g2⟩

theorem set_twoG {W : World} {b : Nat} {p q : Value} {T : TypeId} (h : W.heap[b]? = some (.cells #[p, q] T)) (x y : Value) : ((W.setCell ⟨b, 0, none⟩ x).setCell ⟨b, 1, none⟩ y).heap[b]? = some (.cells #[x, y] T) := by
  simp only [World.setCell, Array.getElem?_modify]
  simp [h]
set_option maxRecDepth 100000 in
set_option maxHeartbeats 4000000 in
theorem take_calls (w : World) (rb : Nat) (Q : List Rw) (k line : Nat) (h : Rd w rb Q k line) :
    Calls Tryz.prog 46 #[.pointer (some ⟨rb, 0, none⟩)] w fun e w' => (Q.length ≤ k ∧ e = .returned (.slice none 0 0) ∧ w' = w) ∨ (∃ q, Q[k]? = some q ∧ e = .returned (.slice (some ⟨q.2.1, 0, none⟩) q.2.2.length q.2.2.length) ∧ Rd w' rb Q (k + 1) q.1 ∧ Off rb w w') := by
  obtain ⟨ro, rc, h1, h2, h3⟩ := h.box
  have c0 : w.cell? ⟨rb, 0, none⟩ = some (.slice ro (Q.length - k) rc) := by simp [World.cell?, h1]
  have c1 : w.cell? ⟨rb, 1, none⟩ = some (.int .i64 (line : Int)) := by simp [World.cell?, h1]
  have rl : rb < w.heap.size := (Array.getElem?_eq_some_iff.1 h1).1
  rcases Nat.lt_or_ge k Q.length with hk | hk
  · obtain ⟨n, hn⟩ : ∃ n, Q.length - k = n + 1 := ⟨Q.length - k - 1, by omega⟩
    obtain ⟨b, rfl, hrc⟩ := h3 hk
    obtain ⟨q, hq⟩ : ∃ q, Q[k]? = some q := ⟨_, List.getElem?_eq_getElem hk⟩
    have hrc0 := hrc
    obtain ⟨cur, g1, g2⟩ := hrc
    obtain ⟨g3, g4⟩ := g2 k q hq
    rw [hn] at c0 h1 h2
    have r0 : w.cell? ⟨b, k * 2, none⟩ = some (.int .i64 (q.1 : Int)) := by simp [World.cell?, g1, g3]
    have r1 : w.cell? ⟨b, k * 2 + 1, none⟩ = some (.slice (some ⟨q.2.1, 0, none⟩) q.2.2.length q.2.2.length) := by simp [World.cell?, g1, g4]
    have bl : b < w.heap.size := (Array.getElem?_eq_some_iff.1 g1).1
    obtain ⟨ro2, hs1, hs2⟩ : ∃ ro : Option Addr, (∀ wx, (Instr.slice 70 (.slice (some ⟨b, k * 2, none⟩) (n + 1) rc) (some (.int .i64 1)) none none).run Tryz.prog wx = .ok (.slice ro n (rc - 1)) wx) ∧ (0 < n → ro = some ⟨b, (k + 1) * 2, none⟩) := by
      refine ⟨if rc = 1 then some ⟨b, k * 2, none⟩ else some ⟨b, (k + 1) * 2, none⟩, fun wx => ?_, fun h0 => if_neg (by omega)⟩
      rw [run_slice_l (ht := Tryz.elemR) (h0 := by omega) (h1 := by omega), Tryz.sizeR]
      simp only [Result.andThen_ok, sliced]
      have e : (1 : Int).toNat = 1 := rfl
      rw [e]
      by_cases e1 : rc = 1
      · rw [if_pos e1, if_pos e1]
        rfl
      · rw [if_neg e1, if_neg e1]
        simp [Addr.add]
    obtain ⟨z, hz⟩ : ∃ z, w.heap.size = z := ⟨_, rfl⟩
    obtain ⟨W1, hW1⟩ : ∃ W1, w.alloc (.cells #[.int .i64 (q.1 : Int), .slice (some ⟨q.2.1, 0, none⟩) q.2.2.length q.2.2.length] 115) = W1 := ⟨_, rfl⟩
    have HW1 : Hid (w.alloc (.cells #[.int .i64 (q.1 : Int), .slice (some ⟨q.2.1, 0, none⟩) q.2.2.length q.2.2.length] 115) = W1) := hW1
    have hb1 : Below w.heap.size w W1 := by rw [← hW1]; exact (Below.refl _ _).alloc (Nat.le_refl _) _
    have n1 : W1.heap[z]? = some (.cells #[.int .i64 (q.1 : Int), .slice (some ⟨q.2.1, 0, none⟩) q.2.2.length q.2.2.length] 115) := by rw [← hW1, ← hz]; exact heap_newG _ _
    have r1' : W1.heap[rb]? = some (.cells #[.slice (some ⟨b, k * 2, none⟩) (n + 1) rc, .int .i64 (line : Int)] 74) := (hb1.block _ rl).trans h1
    have d0 : W1.cell? ⟨rb, 0, none⟩ = some (.slice (some ⟨b, k * 2, none⟩) (n + 1) rc) := by simp [World.cell?, r1']
    have d1 : W1.cell? ⟨rb, 1, none⟩ = some (.int .i64 (line : Int)) := by simp [World.cell?, r1']
    have d2 : W1.frozen? ⟨rb, 0, none⟩ = false := by simp [World.frozen?, r1']
    have d3 : W1.frozen? ⟨rb, 1, none⟩ = false := by simp [World.frozen?, r1']
    have z0 : W1.cell? ⟨z, 0, none⟩ = some (.int .i64 (q.1 : Int)) := by simp [World.cell?, n1]
    have z1 : W1.cell? ⟨z, 1, none⟩ = some (.slice (some ⟨q.2.1, 0, none⟩) q.2.2.length q.2.2.length) := by simp [World.cell?, n1]
    have zl : z < W1.heap.size := (Array.getElem?_eq_some_iff.1 n1).1
    have hzr : z ≠ rb := by omega
    have e9 : (((n : Int) + 1) == 0) = false := beq_eq_false_iff_ne.2 (by omega)
    have HH : Hid (Rd w rb Q k line ∧ Below w.heap.size w W1 ∧ RcAt w b Q ∧ Q[k]? = some q) := ⟨h, hb1, hrc0, hq⟩
    have i1 : (0 : Int) < (n : Int) + 1 := by omega
    clear hW1 hb1 h hrc0 g1 g2 g3 g4 h3 hk
    go_enter Tryz.func46, Tryz.ntmps46
    go_upto_region 4 with fail
    rw [HW1.out]
    go_region
    obtain ⟨U, hU⟩ : ∃ U, ((W1.setCell ⟨rb, 0, none⟩ (.slice ro2 n (rc - 1))).setCell ⟨rb, 1, none⟩ (.int .i64 (q.1 : Int))).drew = U := ⟨_, rfl⟩
    have u0 : ∀ j, j ≠ rb → U.heap[j]? = W1.heap[j]? := fun j hj => by
      rw [← hU]
      exact (Below.heap_setCell _ _ _ _ (by exact hj)).trans (Below.heap_setCell _ _ _ _ (by exact hj))
    have u1 : U.heap[rb]? = some (.cells #[.slice ro2 n (rc - 1), .int .i64 (q.1 : Int)] 74) := by rw [← hU]; exact set_twoG r1' _ _
    have us : U.heap.size = W1.heap.size := by rw [← hU]; simp [World.setCell, World.drew]
    have uo : Off rb w U := by
      have hb1 := HH.out.2.1
      exact ⟨by rw [← hU]; exact hb1.os, by rw [← hU]; exact hb1.tape, by rw [← hU]; exact hb1.output, by rw [us]; exact hb1.size, fun j hj hn => (u0 j hn).trans (hb1.block j hj)⟩
    have HU : Hid (Rd U rb Q (k + 1) q.1 ∧ Off rb w U) := by
      refine ⟨⟨⟨ro2, rc - 1, ?_, by omega, fun hk1 => ?_⟩, fun p hp => (HH.out.1.wds p hp).off uo h1, HH.out.1.few⟩, uo⟩
      · rw [show Q.length - (k + 1) = n by omega]
        exact u1
      · exact ⟨b, hs2 (by omega), HH.out.2.2.1.off uo h1⟩
    have n2 := (u0 z hzr).trans n1
    have zz0 : U.cell? ⟨z, 0, none⟩ = some (.int .i64 (q.1 : Int)) := by simp [World.cell?, n2]
    have zz1 : U.cell? ⟨z, 1, none⟩ = some (.slice (some ⟨q.2.1, 0, none⟩) q.2.2.length q.2.2.length) := by simp [World.cell?, n2]
    have zzl : z < U.heap.size := (Array.getElem?_eq_some_iff.1 n2).1
    rw [hU]
    clear hU u0 u1 us uo n2 n1 d0 d1 d2 d3 z0 z1 zl
    go_wp2
    go_ret
    exact Or.inr ⟨q, HH.out.2.2.2, rfl, HU.out.1, HU.out.2⟩
  · have e0 : Q.length - k = 0 := by omega
    rw [e0] at c0
    clear h1 h3
    go_enter Tryz.func46, Tryz.ntmps46
    go_wp2
    go_ret
    exact Or.inl ⟨hk, rfl, rfl⟩
end Go.Proofs.YthgmhhlgjooeaaaGreatDoor.Gt
