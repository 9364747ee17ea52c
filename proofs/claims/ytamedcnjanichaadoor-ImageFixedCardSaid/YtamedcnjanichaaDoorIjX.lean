/- image's reader where it gives up. (Printed by geniip.py.) viaductref18's Take where there are bytes enough. (Printed by geniiq.py.) what was thrown is caught: image's reason and the closure that Decode defers. (Printed by geniis.py.) image's reader.sign where it gives up, and where it does not. (Printed by geniiu.py.) image's reader.count and end where they give up. (Printed by geniiv.py.) the error of bytes by their frame; image's hierOf where it gives up. (Printed by geniiw.py.) image's Decode where the reading gives up. (Printed by geniiz.py.) the hierarchy that bytes hold; bytes without an error of their frame are its image. image's Decode where the hierarchy read is not in form. what Decode answers, told in one. bytes that are an image are the image of what they hold; cut, grown or turned they are none. -/
import Derived.Test.YtamedcnjanichaaDoorIiY
import Derived.WalkLawsBesides
import Derived.Test.YtamedcnjanichaaDoorErrF
import Derived.Test.YtamedcnjanichaaDoorErrI
import Derived.Deep.QuietTactic
import Derived.BigQuiet
namespace Go.Proofs.YtamedcnjanichaaDoor
open Go.RowKit Go.Extern Cr

attribute [local go_sem] Oper.semAt_some

/-- an error that was thrown. -/
def Thrown (w : World) (E : Int × List (Int × Int)) (e : Ending) : Prop := ∃ T x, e = .panicked [{ v := .iface T x, recovered := false }] ∧ IsTold w E (.iface T x)
theorem giveUp_calls (i c : Int) (hc : c ≠ 0) (w : World) : Calls Tryd.prog 73 #[.int .i64 i, .int .i64 c] w fun e w' => Thrown w' (c, [(2, i)]) e ∧ Below w.heap.size w w' := by
  have HA : Hid (Calls Tryd.prog 49 #[.int .i64 2, .int .i64 i, .iface 53 (.int .i64 c)] w fun e w' => ∃ T x, e = .returned (.iface T x) ∧ IsTold w' (c, [(2, i)]) (.iface T x) ∧ Below w.heap.size w w') := by
    refine (at_some 2 i 53 (.int .i64 c) w).mono ?_
    rintro e w' ⟨rfl, rfl⟩
    exact ⟨_, _, rfl, Or.inr ⟨hc, _, _, rfl, heap_new _ _, rfl⟩, (Below.refl _ _).alloc (Nat.le_refl _) _⟩
  go_enter Tryd.func73, Tryd.ntmps73
  go_wp2_with (go_at_call 49; refine HA.out.mono ?_; rintro e w1 ⟨T, x, rfl, ht, hb⟩; have Y : Hid (IsTold w1 (c, [(2, i)]) (.iface T x) ∧ Below w.heap.size w w1) := ⟨ht, hb⟩; clear ht hb)
  exact ⟨rfl, ⟨T, x, rfl, Y.out.1⟩, Y.out.2⟩
theorem reach_bad (rb : Nat) (lo : Option Addr) (lc n : Nat) (m a : Int) (w : World) (hr : w.heap[rb]? = some (.cells #[.slice lo n lc, .int .i64 a] 104 (0, 0))) (hn : (n : Int) < m) :
    Calls Tryd.prog 53 #[.pointer (some ⟨rb, 0, none⟩), .int .i64 m] w fun e w' => Thrown w' (10, [(2, (n : Int))]) e ∧ Below w.heap.size w w' := by
  obtain ⟨c0, c1, _, _⟩ := cell2I hr
  have l1 := w_lt_get hr
  have HG : Hid (Calls Tryd.prog 73 #[.int .i64 (n : Int), .int .i64 10] w fun e w' => Thrown w' (10, [(2, (n : Int))]) e ∧ Below w.heap.size w w') := giveUp_calls n 10 (by decide) w
  clear hr
  go_enter Tryd.func53, Tryd.ntmps53
  go_wp2_with (go_at_call 73; refine HG.out.mono ?_; rintro e w1 ⟨⟨T, x, rfl, ht⟩, hb⟩; have Y : Hid (IsTold w1 (10, [(2, (n : Int))]) (.iface T x) ∧ Below w.heap.size w w1) := ⟨ht, hb⟩; clear ht hb)
  exact ⟨rfl, ⟨T, x, rfl, Y.out.1⟩, Y.out.2⟩
end Go.Proofs.YtamedcnjanichaaDoor

namespace Go.Proofs.YtamedcnjanichaaDoor
open Go.RowKit Go.Extern Cr

attribute [local go_sem] Oper.semAt_some

theorem piece_consI {l : List Nat} {i n x : Nat} (h : l[i]? = some x) : piece l i (n + 1) = x :: piece l (i + 1) n := by
  obtain ⟨hi, hx⟩ := List.getElem?_eq_some_iff.1 h
  unfold piece
  rw [List.drop_eq_getElem_cons hi, hx, List.take_succ_cons]
theorem num_consI (x : Nat) (l : List Nat) : num (x :: l) = x + 256 * num l := by
  first | rfl | (simp only [num]; omega) | (simp [num]; omega)

theorem wordsOf_lenI (l : List Nat) (a c : Nat) : (wordsOf l a c).length = c := by unfold wordsOf; simp
theorem wordsOf_take (l : List Nat) (a k : Nat) : wordsOf l a (k + 1) = wordsOf l a k ++ [num (piece l (a + 4 * k) 4)] := by
  unfold wordsOf
  rw [List.range_succ, List.map_append]
  rfl
end Go.Proofs.YtamedcnjanichaaDoor

namespace Go.Proofs.YtamedcnjanichaaDoor
open Go.RowKit Go.Extern Cr

attribute [local go_sem] Oper.semAt_some

theorem assert_fault (v : Value) (xT : TypeId) (w : World) : (Instr.typeAssert (.iface 76 v) xT 30 true).run Tryd.prog w = .ok (.tuple #[.iface 76 v, .bool true]) w := by
  first | kernel_rfl | rfl

set_option maxRecDepth 100000 in
set_option maxHeartbeats 2000000 in
theorem reason_calls (b : Nat) (w : World) (hty : HasType w) :
    Calls Tryd.prog 33 #[.iface 76 (.pointer (some ⟨b, 0, none⟩))] w fun e w' => e = .returned (.iface 76 (.pointer (some ⟨b, 0, none⟩))) ∧ Below w.heap.size w w' := by
  have HA := fun (v : Value) (xT : TypeId) (w : World) => assert_fault v xT w
  obtain ⟨W0, hW0⟩ : ∃ W0, w.alloc (.cells #[.pointer none] 76) = W0 := ⟨_, rfl⟩
  have HW0 : Hid (w.alloc (.cells #[.pointer none] 76) = W0) := hW0
  have hB0 : Below w.heap.size w W0 := by rw [← hW0]; exact (Below.refl _ _).alloc (Nat.le_refl _) _
  have hbx : W0.heap[w.heap.size]? = some (.cells #[.pointer none] 76) := by rw [← hW0]; exact heap_new _ _
  have hlt := w_lt_get hbx
  have HAS : Hid (Calls Tryd.prog 38 #[.iface 76 (.pointer (some ⟨b, 0, none⟩)), .iface 78 (.pointer (some ⟨w.heap.size, 0, none⟩))] W0 fun ev w' => ev = .returned (.bool true) ∧ w'.heap[w.heap.size]? = some (.cells #[.pointer (some ⟨b, 0, none⟩)] 76) ∧ Below w.heap.size w w') := by
    refine (as_fault ⟨b, 0, none⟩ w.heap.size (.pointer none) W0 (hty.keep hB0 hty.pos) hbx).mono ?_
    rintro ev w' ⟨rfl, h1, h2⟩
    exact ⟨rfl, h1, hB0.trans ⟨h2.os, h2.tape, h2.output, h2.size, fun k hk => h2.block k (by omega) (by omega)⟩⟩
  clear hW0 hB0 hbx hlt hty
  go_enter Tryd.func33, Tryd.ntmps33
  go_upto_region 4 with fail
  try rw [HW0.out]
  go_wp2_with fail
  refine HAS.out.mono ?_
  rintro e y ⟨rfl, h1, h2⟩
  have Y : Hid (Below w.heap.size w y) := h2
  have c0 : y.cell? ⟨w.heap.size, 0, none⟩ = some (.pointer (some ⟨b, 0, none⟩)) := by simp [World.cell?, h1]
  have l0 := w_lt_get h1
  clear h1 h2
  go_wp2
  go_ret
  exact ⟨rfl, Y.out⟩

set_option maxRecDepth 100000 in
set_option maxHeartbeats 2000000 in
theorem decode1_catch (z b : Nat) (w : World) (hty : HasType w) (hz : w.heap[z]? = some (.cells #[.slice none 0 0, .slice none 0 0, .slice none 0 0, .slice none 0 0, .slice none 0 0] 25 (0, 0))) (hz1 : w.heap[z + 1]? = some (.cells #[.nilIface] 30 (0, 0))) :
    CallsD Tryd.prog 32 #[.pointer (some ⟨z, 0, none⟩), .pointer (some ⟨z + 1, 0, none⟩)] (.panicking [{ v := .iface 76 (.pointer (some ⟨b, 0, none⟩)), recovered := false }]) w fun e u' w' =>
      e = .returned (.tuple #[]) ∧ u' = .panicking [{ v := .iface 76 (.pointer (some ⟨b, 0, none⟩)), recovered := true }] ∧ w'.heap[z]? = some (.cells #[.slice none 0 0, .slice none 0 0, .slice none 0 0, .slice none 0 0, .slice none 0 0] 25 (0, 0)) ∧ w'.heap[z + 1]? = some (.cells #[.iface 76 (.pointer (some ⟨b, 0, none⟩))] 30 (0, 0)) ∧ Below z w w' ∧ Keeps w w' := by
  have HR : Hid (Calls Tryd.prog 33 #[.iface 76 (.pointer (some ⟨b, 0, none⟩))] w fun e w' => e = .returned (.iface 76 (.pointer (some ⟨b, 0, none⟩))) ∧ Below w.heap.size w w') := reason_calls b w hty
  refine callsD_of_wpS Tryd.func32 rfl fun c₀ cs hu => ?_
  apply wpS_seq
  apply wpS_region
  simp [wpOpsS, go_sem, recoverD, hu, Tryd.ntmps32, Exit.thenS]
  apply wpS_seq
  apply wpS_region
  simp [wpOpsS, go_sem, Exit.thenS]
  refine wpS_cond (t := true) (by simp [Act.eval, Array.replicate]) ?_
  simp only [if_true]
  refine wpS_of_wp ?_
  show Code.wp _ _ _ { tmps := #[.pointer (some ⟨z, 0, none⟩), .pointer (some ⟨z + 1, 0, none⟩), .iface 76 (.pointer (some ⟨b, 0, none⟩)), .iface 76 (.pointer (some ⟨b, 0, none⟩)), .iface 76 (.pointer (some ⟨b, 0, none⟩)), .bool true, undef, undef, undef], defers := [] } w
  go_wp2_with fail
  refine HR.out.mono ?_
  rintro e y ⟨rfl, hb⟩
  have x1 := (hb.block _ (w_lt_get hz)).trans hz
  have x2 := (hb.block _ (w_lt_get hz1)).trans hz1
  have hlt := w_lt_get hz
  obtain ⟨z0, z1, z2, z3, z4⟩ := Hi.five_cells x1
  have lz := w_lt_get x1
  have le := w_lt_get x2
  have ez : y.cell? ⟨z + 1, 0, none⟩ = some .nilIface := by simp [World.cell?, x2]
  have ef : y.frozen? ⟨z + 1, 0, none⟩ = false := by simp [World.frozen?, x2]
  have fz : ∀ i, y.frozen? ⟨z, i, none⟩ = false := fun i => by simp [World.frozen?, x1]
  have fz0 := fz 0
  have fz1 := fz 1
  have fz2 := fz 2
  have fz3 := fz 3
  have fz4 := fz 4
  have XH : Hid (y.heap[z]? = some (.cells #[.slice none 0 0, .slice none 0 0, .slice none 0 0, .slice none 0 0, .slice none 0 0] 25 (0, 0)) ∧ y.heap[z + 1]? = some (.cells #[.nilIface] 30 (0, 0)) ∧ Below w.heap.size w y ∧ z < w.heap.size) := ⟨x1, x2, hb, hlt⟩
  clear fz x1 x2 hb hlt hz hz1
  go_wp2
  obtain ⟨x1, x2, x3, x4⟩ := XH.out
  have hS := Hi.set_five x1 (.slice none 0 0) (.slice none 0 0) (.slice none 0 0) (.slice none 0 0) (.slice none 0 0)
  obtain ⟨hf1, hf2⟩ := Hi.five_far y z (.slice none 0 0) (.slice none 0 0) (.slice none 0 0) (.slice none 0 0) (.slice none 0 0)
  have hbb : Below z y (((((y.setCell ⟨z, 0, none⟩ (.slice none 0 0)).setCell ⟨z, 1, none⟩ (.slice none 0 0)).setCell ⟨z, 2, none⟩ (.slice none 0 0)).setCell ⟨z, 3, none⟩ (.slice none 0 0)).setCell ⟨z, 4, none⟩ (.slice none 0 0)) := (((((Below.refl z y).setCell (p := ⟨z, 0, none⟩) (Nat.le_refl _) _).setCell (p := ⟨z, 1, none⟩) (Nat.le_refl _) _).setCell (p := ⟨z, 2, none⟩) (Nat.le_refl _) _).setCell (p := ⟨z, 3, none⟩) (Nat.le_refl _) _).setCell (p := ⟨z, 4, none⟩) (Nat.le_refl _) _
  have hE : (((((y.setCell ⟨z, 0, none⟩ (.slice none 0 0)).setCell ⟨z, 1, none⟩ (.slice none 0 0)).setCell ⟨z, 2, none⟩ (.slice none 0 0)).setCell ⟨z, 3, none⟩ (.slice none 0 0)).setCell ⟨z, 4, none⟩ (.slice none 0 0)).heap[z + 1]? = some (.cells #[.nilIface] 30 (0, 0)) := (hf1 _ (by omega)).trans x2
  have hK : Keeps y (((((y.setCell ⟨z, 0, none⟩ (.slice none 0 0)).setCell ⟨z, 1, none⟩ (.slice none 0 0)).setCell ⟨z, 2, none⟩ (.slice none 0 0)).setCell ⟨z, 3, none⟩ (.slice none 0 0)).setCell ⟨z, 4, none⟩ (.slice none 0 0)) := fun k c hk => by
    have hne : k ≠ z := fun e => by
      subst e
      rw [x1] at hk
      simp at hk
    exact (hf1 k hne).trans hk
  clear z0 z1 z2 z3 z4 fz0 fz1 fz2 fz3 fz4 ez ef lz le hf1 hf2
  generalize (((((y.setCell ⟨z, 0, none⟩ (.slice none 0 0)).setCell ⟨z, 1, none⟩ (.slice none 0 0)).setCell ⟨z, 2, none⟩ (.slice none 0 0)).setCell ⟨z, 3, none⟩ (.slice none 0 0)).setCell ⟨z, 4, none⟩ (.slice none 0 0)) = WE at *
  have fin : ∀ WF : World, WF = WE.setCell ⟨z + 1, 0, none⟩ (.iface 76 (.pointer (some ⟨b, 0, none⟩))) → WF.heap[z]? = some (.cells #[.slice none 0 0, .slice none 0 0, .slice none 0 0, .slice none 0 0, .slice none 0 0] 25 (0, 0)) ∧ WF.heap[z + 1]? = some (.cells #[.iface 76 (.pointer (some ⟨b, 0, none⟩))] 30 (0, 0)) ∧ Below z w WF ∧ Keeps w WF := by
    rintro WF rfl
    have o : ∀ k, k ≠ z + 1 → (WE.setCell ⟨z + 1, 0, none⟩ (.iface 76 (.pointer (some ⟨b, 0, none⟩)))).heap[k]? = WE.heap[k]? := fun k hk => by first | exact heap_setCell_other _ _ _ _ hk | exact heap_setCell_other _ _ _ _ hk.symm
    refine ⟨(o z (by omega)).trans hS, ?_, ((x3.mono (Nat.le_of_lt x4)).trans hbb).setCell (p := ⟨z + 1, 0, none⟩) (show z ≤ z + 1 by omega) _, (Below.keeps x3).trans (hK.trans fun k c hk => ?_)⟩
    · rw [heap_setCell_same WE (z + 1) 0 _ 30 _ hE]
      rfl
    · have hne : k ≠ z + 1 := fun e => by
        subst e
        rw [hE] at hk
        simp at hk
      exact (o k hne).trans hk
  obtain ⟨p1, p2, p3, p4⟩ := fin _ rfl
  clear fin hS hbb hE hK x1 x2 x3
  generalize WE.setCell ⟨z + 1, 0, none⟩ (.iface 76 (.pointer (some ⟨b, 0, none⟩))) = WF at *
  simp [bodyPostS, results, Tryd.results32, p1, p2]
  exact ⟨p3, p4⟩
end Go.Proofs.YtamedcnjanichaaDoor

namespace Go.Proofs.YtamedcnjanichaaDoor
open Go.RowKit Go.Extern Cr

attribute [local go_sem] Oper.semAt_some

set_option maxRecDepth 100000 in
set_option maxHeartbeats 4000000 in
theorem sign_0_0 (rb : Nat) (lo : Option Addr) (lc : Nat) (l : List Nat) (ec : Int) (hec : ec ≠ 0) (w : World) (hr : w.heap[rb]? = some (.cells #[.slice lo l.length lc, .int .i64 0] 104 (0, 0))) (hl : HasB w (.slice lo l.length lc) l) (hlen : 8 ≤ l.length)  (x : Nat) (hx : l[0]? = some x) (hxn : x ≠ 86) :
    Calls Tryd.prog 54 #[.pointer (some ⟨rb, 0, none⟩), .string { data := #[86, 68, 67, 84] }, .int .i64 ec] w fun e w' => Thrown w' (ec, [(2, 0)]) e ∧ Below w.heap.size w w' := by
  have HRR : Hid (w.heap[rb]? = some (.cells #[.slice lo l.length lc, .int .i64 0] 104 (0, 0))) := hr
  have HR : Hid (∀ wx, Below w.heap.size w wx → (wx.cell? ⟨rb, 0, none⟩ = some (.slice lo l.length lc) ∧ wx.cell? ⟨rb, 1, none⟩ = some (.int .i64 0)) ∧ wx.frozen? ⟨rb, 1, none⟩ = false ∧ rb < wx.heap.size ∧ HasB wx (.slice lo l.length lc) l) := fun wx hx => by
    have q := (hx.block _ (w_lt_get hr)).trans hr
    obtain ⟨q0, q1, q2, q3⟩ := cell2I q
    exact ⟨⟨q0, q1⟩, q3, w_lt_get q, hl.keep hx⟩
  have HG : Hid (∀ (i : Int) wx, Calls Tryd.prog 73 #[.int .i64 i, .int .i64 ec] wx fun e w' => Thrown w' (ec, [(2, i)]) e ∧ Below wx.heap.size wx w') := fun i wx => giveUp_calls i ec hec wx
  have KX : Hid (l[0]? = some x) := hx
  clear hr hl hx
  go_enter Tryd.func54, Tryd.ntmps54
  go_wp2_with fail
  go_loopw [9] (fun iv wr => ∃ k : Nat, k ≤ 0 ∧ iv = .int .i64 (k : Nat) ∧ Below w.heap.size w wr) (fun iv _ => 4 - (intOf iv).toNat)
  case atStart => exact ⟨0, by omega, rfl, Below.refl _ _⟩
  case round =>
    obtain ⟨k, hk, rfl, hbw⟩ := hrel
    have HB : Hid (Below w.heap.size w wr) := hbw
    obtain ⟨⟨c0, c1⟩, f1, l1, hlx⟩ := HR.out wr hbw
    clear hbw
    obtain rfl : k = 0 := by omega
    · obtain ⟨b, off, rfl, bl, p0⟩ := hlx.at KX.out
      obtain ⟨a0, ha0⟩ : ∃ a0 : Nat, 0 = a0 := ⟨0, rfl⟩
      have c1' : wr.cell? ⟨rb, 1, none⟩ = some (.int .i64 (a0 : Int)) := by rw [← ha0]; exact c1
      have p0' : wr.cell? ⟨b, off + a0, none⟩ = some (.int .u8 (x : Int)) := by rw [← ha0]; exact p0
      have i1 : (a0 : Int) < (l.length : Int) := by omega
      have i2 : a0 ≤ 4 := by omega
      have HA0 : Hid ((a0 : Int) = 0) := by show (a0 : Int) = 0; omega
      clear hlx c1 p0 ha0
      have n1 : ¬ ((x : Int) = 86) := by omega
      have n2 : decide ((x : Int) = 86) = false := decide_eq_false n1
      go_wp2_with fail
      go_quiet (fail)
      have HBQ : Hid (Below w.heap.size w (wr.drewN nq)) := HB.out.trans ⟨rfl, rfl, rfl, Nat.le_refl _, fun _ _ => rfl⟩
      go_wp2_with (go_at_call 73; refine (HG.out _ _).mono ?_; rintro e w1 ⟨⟨T, z, rfl, ht⟩, hb⟩; have Y : Hid (IsTold w1 (ec, [(2, (a0 : Int))]) (.iface T z) ∧ Below w.heap.size w w1) := ⟨ht, btrI HBQ.out hb⟩; clear ht hb)
      case roundEnd =>
        exfalso
        rename_i hq
        simp only [bne_eq_false_iff_eq] at hq
        exact n1 (hq.trans rfl)
      rw [HA0.out] at Y
      exact ⟨rfl, ⟨T, z, rfl, Y.out.1⟩, Y.out.2⟩

set_option maxRecDepth 100000 in
set_option maxHeartbeats 4000000 in
theorem sign_0_1 (rb : Nat) (lo : Option Addr) (lc : Nat) (l : List Nat) (ec : Int) (hec : ec ≠ 0) (w : World) (hr : w.heap[rb]? = some (.cells #[.slice lo l.length lc, .int .i64 0] 104 (0, 0))) (hl : HasB w (.slice lo l.length lc) l) (hlen : 8 ≤ l.length) (h0 : l[0]? = some 86) (x : Nat) (hx : l[1]? = some x) (hxn : x ≠ 68) :
    Calls Tryd.prog 54 #[.pointer (some ⟨rb, 0, none⟩), .string { data := #[86, 68, 67, 84] }, .int .i64 ec] w fun e w' => Thrown w' (ec, [(2, 1)]) e ∧ Below w.heap.size w w' := by
  have HRR : Hid (w.heap[rb]? = some (.cells #[.slice lo l.length lc, .int .i64 0] 104 (0, 0))) := hr
  have HR : Hid (∀ wx, Below w.heap.size w wx → (wx.cell? ⟨rb, 0, none⟩ = some (.slice lo l.length lc) ∧ wx.cell? ⟨rb, 1, none⟩ = some (.int .i64 0)) ∧ wx.frozen? ⟨rb, 1, none⟩ = false ∧ rb < wx.heap.size ∧ HasB wx (.slice lo l.length lc) l) := fun wx hx => by
    have q := (hx.block _ (w_lt_get hr)).trans hr
    obtain ⟨q0, q1, q2, q3⟩ := cell2I q
    exact ⟨⟨q0, q1⟩, q3, w_lt_get q, hl.keep hx⟩
  have HG : Hid (∀ (i : Int) wx, Calls Tryd.prog 73 #[.int .i64 i, .int .i64 ec] wx fun e w' => Thrown w' (ec, [(2, i)]) e ∧ Below wx.heap.size wx w') := fun i wx => giveUp_calls i ec hec wx
  have K0 : Hid (l[0]? = some 86) := h0
  have KX : Hid (l[1]? = some x) := hx
  clear hr hl h0 hx
  go_enter Tryd.func54, Tryd.ntmps54
  go_wp2_with fail
  go_loopw [9] (fun iv wr => ∃ k : Nat, k ≤ 1 ∧ iv = .int .i64 (k : Nat) ∧ Below w.heap.size w wr) (fun iv _ => 4 - (intOf iv).toNat)
  case atStart => exact ⟨0, by omega, rfl, Below.refl _ _⟩
  case round =>
    obtain ⟨k, hk, rfl, hbw⟩ := hrel
    have HB : Hid (Below w.heap.size w wr) := hbw
    obtain ⟨⟨c0, c1⟩, f1, l1, hlx⟩ := HR.out wr hbw
    clear hbw
    rcases (show k = 0 ∨ k = 1 by omega) with rfl | rfl
    · obtain ⟨b, off, rfl, bl, p0⟩ := hlx.at K0.out
      obtain ⟨a0, ha0⟩ : ∃ a0 : Nat, 0 = a0 := ⟨0, rfl⟩
      have c1' : wr.cell? ⟨rb, 1, none⟩ = some (.int .i64 (a0 : Int)) := by rw [← ha0]; exact c1
      have p0' : wr.cell? ⟨b, off + a0, none⟩ = some (.int .u8 86) := by rw [← ha0]; exact p0
      have i1 : (a0 : Int) < (l.length : Int) := by omega
      have i2 : a0 ≤ 4 := by omega
      have HA0 : Hid ((a0 : Int) = 0) := by show (a0 : Int) = 0; omega
      clear hlx c1 p0 ha0
      go_wp2_with fail
      go_quiet (fail)
      have HBQ : Hid (Below w.heap.size w (wr.drewN nq)) := HB.out.trans ⟨rfl, rfl, rfl, Nat.le_refl _, fun _ _ => rfl⟩
      go_wp2
      go_roundw
      case rel => exact ⟨1, by omega, by go_num, HBQ.out⟩
      case measure => simp [intOf]
    · obtain ⟨b, off, rfl, bl, p0⟩ := hlx.at KX.out
      have i1 : (1 : Int) < (l.length : Int) := by omega
      clear hlx
      have n1 : ¬ ((x : Int) = 68) := by omega
      have n2 : decide ((x : Int) = 68) = false := decide_eq_false n1
      go_wp2_with fail
      go_quiet (fail)
      have HBQ : Hid (Below w.heap.size w (wr.drewN nq)) := HB.out.trans ⟨rfl, rfl, rfl, Nat.le_refl _, fun _ _ => rfl⟩
      go_wp2_with (go_at_call 73; refine (HG.out _ _).mono ?_; rintro e w1 ⟨⟨T, z, rfl, ht⟩, hb⟩; have Y : Hid (IsTold w1 (ec, [(2, 1)]) (.iface T z) ∧ Below w.heap.size w w1) := ⟨ht, btrI HBQ.out hb⟩; clear ht hb)
      case roundEnd =>
        exfalso
        rename_i hq
        simp only [bne_eq_false_iff_eq] at hq
        exact n1 (hq.trans rfl)
      skip
      exact ⟨rfl, ⟨T, z, rfl, Y.out.1⟩, Y.out.2⟩

set_option maxRecDepth 100000 in
set_option maxHeartbeats 4000000 in
theorem sign_0_2 (rb : Nat) (lo : Option Addr) (lc : Nat) (l : List Nat) (ec : Int) (hec : ec ≠ 0) (w : World) (hr : w.heap[rb]? = some (.cells #[.slice lo l.length lc, .int .i64 0] 104 (0, 0))) (hl : HasB w (.slice lo l.length lc) l) (hlen : 8 ≤ l.length) (h0 : l[0]? = some 86) (h1 : l[1]? = some 68) (x : Nat) (hx : l[2]? = some x) (hxn : x ≠ 67) :
    Calls Tryd.prog 54 #[.pointer (some ⟨rb, 0, none⟩), .string { data := #[86, 68, 67, 84] }, .int .i64 ec] w fun e w' => Thrown w' (ec, [(2, 2)]) e ∧ Below w.heap.size w w' := by
  have HRR : Hid (w.heap[rb]? = some (.cells #[.slice lo l.length lc, .int .i64 0] 104 (0, 0))) := hr
  have HR : Hid (∀ wx, Below w.heap.size w wx → (wx.cell? ⟨rb, 0, none⟩ = some (.slice lo l.length lc) ∧ wx.cell? ⟨rb, 1, none⟩ = some (.int .i64 0)) ∧ wx.frozen? ⟨rb, 1, none⟩ = false ∧ rb < wx.heap.size ∧ HasB wx (.slice lo l.length lc) l) := fun wx hx => by
    have q := (hx.block _ (w_lt_get hr)).trans hr
    obtain ⟨q0, q1, q2, q3⟩ := cell2I q
    exact ⟨⟨q0, q1⟩, q3, w_lt_get q, hl.keep hx⟩
  have HG : Hid (∀ (i : Int) wx, Calls Tryd.prog 73 #[.int .i64 i, .int .i64 ec] wx fun e w' => Thrown w' (ec, [(2, i)]) e ∧ Below wx.heap.size wx w') := fun i wx => giveUp_calls i ec hec wx
  have K0 : Hid (l[0]? = some 86) := h0
  have K1 : Hid (l[1]? = some 68) := h1
  have KX : Hid (l[2]? = some x) := hx
  clear hr hl h0 h1 hx
  go_enter Tryd.func54, Tryd.ntmps54
  go_wp2_with fail
  go_loopw [9] (fun iv wr => ∃ k : Nat, k ≤ 2 ∧ iv = .int .i64 (k : Nat) ∧ Below w.heap.size w wr) (fun iv _ => 4 - (intOf iv).toNat)
  case atStart => exact ⟨0, by omega, rfl, Below.refl _ _⟩
  case round =>
    obtain ⟨k, hk, rfl, hbw⟩ := hrel
    have HB : Hid (Below w.heap.size w wr) := hbw
    obtain ⟨⟨c0, c1⟩, f1, l1, hlx⟩ := HR.out wr hbw
    clear hbw
    rcases (show k = 0 ∨ k = 1 ∨ k = 2 by omega) with rfl | rfl | rfl
    · obtain ⟨b, off, rfl, bl, p0⟩ := hlx.at K0.out
      obtain ⟨a0, ha0⟩ : ∃ a0 : Nat, 0 = a0 := ⟨0, rfl⟩
      have c1' : wr.cell? ⟨rb, 1, none⟩ = some (.int .i64 (a0 : Int)) := by rw [← ha0]; exact c1
      have p0' : wr.cell? ⟨b, off + a0, none⟩ = some (.int .u8 86) := by rw [← ha0]; exact p0
      have i1 : (a0 : Int) < (l.length : Int) := by omega
      have i2 : a0 ≤ 4 := by omega
      have HA0 : Hid ((a0 : Int) = 0) := by show (a0 : Int) = 0; omega
      clear hlx c1 p0 ha0
      go_wp2_with fail
      go_quiet (fail)
      have HBQ : Hid (Below w.heap.size w (wr.drewN nq)) := HB.out.trans ⟨rfl, rfl, rfl, Nat.le_refl _, fun _ _ => rfl⟩
      go_wp2
      go_roundw
      case rel => exact ⟨1, by omega, by go_num, HBQ.out⟩
      case measure => simp [intOf]
    · obtain ⟨b, off, rfl, bl, p0⟩ := hlx.at K1.out
      have i1 : (1 : Int) < (l.length : Int) := by omega
      clear hlx
      go_wp2_with fail
      go_quiet (fail)
      have HBQ : Hid (Below w.heap.size w (wr.drewN nq)) := HB.out.trans ⟨rfl, rfl, rfl, Nat.le_refl _, fun _ _ => rfl⟩
      go_wp2
      go_roundw
      case rel => exact ⟨2, by omega, by go_num, HBQ.out⟩
      case measure => simp [intOf]
    · obtain ⟨b, off, rfl, bl, p0⟩ := hlx.at KX.out
      have i1 : (2 : Int) < (l.length : Int) := by omega
      clear hlx
      have n1 : ¬ ((x : Int) = 67) := by omega
      have n2 : decide ((x : Int) = 67) = false := decide_eq_false n1
      go_wp2_with fail
      go_quiet (fail)
      have HBQ : Hid (Below w.heap.size w (wr.drewN nq)) := HB.out.trans ⟨rfl, rfl, rfl, Nat.le_refl _, fun _ _ => rfl⟩
      go_wp2_with (go_at_call 73; refine (HG.out _ _).mono ?_; rintro e w1 ⟨⟨T, z, rfl, ht⟩, hb⟩; have Y : Hid (IsTold w1 (ec, [(2, 2)]) (.iface T z) ∧ Below w.heap.size w w1) := ⟨ht, btrI HBQ.out hb⟩; clear ht hb)
      case roundEnd =>
        exfalso
        rename_i hq
        simp only [bne_eq_false_iff_eq] at hq
        exact n1 (hq.trans rfl)
      skip
      exact ⟨rfl, ⟨T, z, rfl, Y.out.1⟩, Y.out.2⟩

set_option maxRecDepth 100000 in
set_option maxHeartbeats 4000000 in
theorem sign_0_3 (rb : Nat) (lo : Option Addr) (lc : Nat) (l : List Nat) (ec : Int) (hec : ec ≠ 0) (w : World) (hr : w.heap[rb]? = some (.cells #[.slice lo l.length lc, .int .i64 0] 104 (0, 0))) (hl : HasB w (.slice lo l.length lc) l) (hlen : 8 ≤ l.length) (h0 : l[0]? = some 86) (h1 : l[1]? = some 68) (h2 : l[2]? = some 67) (x : Nat) (hx : l[3]? = some x) (hxn : x ≠ 84) :
    Calls Tryd.prog 54 #[.pointer (some ⟨rb, 0, none⟩), .string { data := #[86, 68, 67, 84] }, .int .i64 ec] w fun e w' => Thrown w' (ec, [(2, 3)]) e ∧ Below w.heap.size w w' := by
  have HRR : Hid (w.heap[rb]? = some (.cells #[.slice lo l.length lc, .int .i64 0] 104 (0, 0))) := hr
  have HR : Hid (∀ wx, Below w.heap.size w wx → (wx.cell? ⟨rb, 0, none⟩ = some (.slice lo l.length lc) ∧ wx.cell? ⟨rb, 1, none⟩ = some (.int .i64 0)) ∧ wx.frozen? ⟨rb, 1, none⟩ = false ∧ rb < wx.heap.size ∧ HasB wx (.slice lo l.length lc) l) := fun wx hx => by
    have q := (hx.block _ (w_lt_get hr)).trans hr
    obtain ⟨q0, q1, q2, q3⟩ := cell2I q
    exact ⟨⟨q0, q1⟩, q3, w_lt_get q, hl.keep hx⟩
  have HG : Hid (∀ (i : Int) wx, Calls Tryd.prog 73 #[.int .i64 i, .int .i64 ec] wx fun e w' => Thrown w' (ec, [(2, i)]) e ∧ Below wx.heap.size wx w') := fun i wx => giveUp_calls i ec hec wx
  have K0 : Hid (l[0]? = some 86) := h0
  have K1 : Hid (l[1]? = some 68) := h1
  have K2 : Hid (l[2]? = some 67) := h2
  have KX : Hid (l[3]? = some x) := hx
  clear hr hl h0 h1 h2 hx
  go_enter Tryd.func54, Tryd.ntmps54
  go_wp2_with fail
  go_loopw [9] (fun iv wr => ∃ k : Nat, k ≤ 3 ∧ iv = .int .i64 (k : Nat) ∧ Below w.heap.size w wr) (fun iv _ => 4 - (intOf iv).toNat)
  case atStart => exact ⟨0, by omega, rfl, Below.refl _ _⟩
  case round =>
    obtain ⟨k, hk, rfl, hbw⟩ := hrel
    have HB : Hid (Below w.heap.size w wr) := hbw
    obtain ⟨⟨c0, c1⟩, f1, l1, hlx⟩ := HR.out wr hbw
    clear hbw
    rcases (show k = 0 ∨ k = 1 ∨ k = 2 ∨ k = 3 by omega) with rfl | rfl | rfl | rfl
    · obtain ⟨b, off, rfl, bl, p0⟩ := hlx.at K0.out
      obtain ⟨a0, ha0⟩ : ∃ a0 : Nat, 0 = a0 := ⟨0, rfl⟩
      have c1' : wr.cell? ⟨rb, 1, none⟩ = some (.int .i64 (a0 : Int)) := by rw [← ha0]; exact c1
      have p0' : wr.cell? ⟨b, off + a0, none⟩ = some (.int .u8 86) := by rw [← ha0]; exact p0
      have i1 : (a0 : Int) < (l.length : Int) := by omega
      have i2 : a0 ≤ 4 := by omega
      have HA0 : Hid ((a0 : Int) = 0) := by show (a0 : Int) = 0; omega
      clear hlx c1 p0 ha0
      go_wp2_with fail
      go_quiet (fail)
      have HBQ : Hid (Below w.heap.size w (wr.drewN nq)) := HB.out.trans ⟨rfl, rfl, rfl, Nat.le_refl _, fun _ _ => rfl⟩
      go_wp2
      go_roundw
      case rel => exact ⟨1, by omega, by go_num, HBQ.out⟩
      case measure => simp [intOf]
    · obtain ⟨b, off, rfl, bl, p0⟩ := hlx.at K1.out
      have i1 : (1 : Int) < (l.length : Int) := by omega
      clear hlx
      go_wp2_with fail
      go_quiet (fail)
      have HBQ : Hid (Below w.heap.size w (wr.drewN nq)) := HB.out.trans ⟨rfl, rfl, rfl, Nat.le_refl _, fun _ _ => rfl⟩
      go_wp2
      go_roundw
      case rel => exact ⟨2, by omega, by go_num, HBQ.out⟩
      case measure => simp [intOf]
    · obtain ⟨b, off, rfl, bl, p0⟩ := hlx.at K2.out
      have i1 : (2 : Int) < (l.length : Int) := by omega
      clear hlx
      go_wp2_with fail
      go_quiet (fail)
      have HBQ : Hid (Below w.heap.size w (wr.drewN nq)) := HB.out.trans ⟨rfl, rfl, rfl, Nat.le_refl _, fun _ _ => rfl⟩
      go_wp2
      go_roundw
      case rel => exact ⟨3, by omega, by go_num, HBQ.out⟩
      case measure => simp [intOf]
    · obtain ⟨b, off, rfl, bl, p0⟩ := hlx.at KX.out
      have i1 : (3 : Int) < (l.length : Int) := by omega
      clear hlx
      have n1 : ¬ ((x : Int) = 84) := by omega
      have n2 : decide ((x : Int) = 84) = false := decide_eq_false n1
      go_wp2_with fail
      go_quiet (fail)
      have HBQ : Hid (Below w.heap.size w (wr.drewN nq)) := HB.out.trans ⟨rfl, rfl, rfl, Nat.le_refl _, fun _ _ => rfl⟩
      go_wp2_with (go_at_call 73; refine (HG.out _ _).mono ?_; rintro e w1 ⟨⟨T, z, rfl, ht⟩, hb⟩; have Y : Hid (IsTold w1 (ec, [(2, 3)]) (.iface T z) ∧ Below w.heap.size w w1) := ⟨ht, btrI HBQ.out hb⟩; clear ht hb)
      case roundEnd =>
        exfalso
        rename_i hq
        simp only [bne_eq_false_iff_eq] at hq
        exact n1 (hq.trans rfl)
      skip
      exact ⟨rfl, ⟨T, z, rfl, Y.out.1⟩, Y.out.2⟩

set_option maxRecDepth 100000 in
set_option maxHeartbeats 4000000 in
theorem sign_0_4 (rb : Nat) (lo : Option Addr) (lc : Nat) (l : List Nat) (ec : Int) (hec : ec ≠ 0) (w : World) (hr : w.heap[rb]? = some (.cells #[.slice lo l.length lc, .int .i64 0] 104 (0, 0))) (hl : HasB w (.slice lo l.length lc) l) (hlen : 8 ≤ l.length) (h0 : l[0]? = some 86) (h1 : l[1]? = some 68) (h2 : l[2]? = some 67) (h3 : l[3]? = some 84) :
    Calls Tryd.prog 54 #[.pointer (some ⟨rb, 0, none⟩), .string { data := #[86, 68, 67, 84] }, .int .i64 ec] w fun e w' => e = .returned (.tuple #[]) ∧ RdTo w w' rb lo l.length lc 4 := by
  have HRR : Hid (w.heap[rb]? = some (.cells #[.slice lo l.length lc, .int .i64 0] 104 (0, 0))) := hr
  have HR : Hid (∀ wx, Below w.heap.size w wx → (wx.cell? ⟨rb, 0, none⟩ = some (.slice lo l.length lc) ∧ wx.cell? ⟨rb, 1, none⟩ = some (.int .i64 0)) ∧ wx.frozen? ⟨rb, 1, none⟩ = false ∧ rb < wx.heap.size ∧ HasB wx (.slice lo l.length lc) l) := fun wx hx => by
    have q := (hx.block _ (w_lt_get hr)).trans hr
    obtain ⟨q0, q1, q2, q3⟩ := cell2I q
    exact ⟨⟨q0, q1⟩, q3, w_lt_get q, hl.keep hx⟩
  have HG : Hid (∀ (i : Int) wx, Calls Tryd.prog 73 #[.int .i64 i, .int .i64 ec] wx fun e w' => Thrown w' (ec, [(2, i)]) e ∧ Below wx.heap.size wx w') := fun i wx => giveUp_calls i ec hec wx
  have K0 : Hid (l[0]? = some 86) := h0
  have K1 : Hid (l[1]? = some 68) := h1
  have K2 : Hid (l[2]? = some 67) := h2
  have K3 : Hid (l[3]? = some 84) := h3
  clear hr hl h0 h1 h2 h3
  go_enter Tryd.func54, Tryd.ntmps54
  go_wp2_with fail
  go_loopw [9] (fun iv wr => ∃ k : Nat, k ≤ 4 ∧ iv = .int .i64 (k : Nat) ∧ Below w.heap.size w wr) (fun iv _ => 4 - (intOf iv).toNat)
  case atStart => exact ⟨0, by omega, rfl, Below.refl _ _⟩
  case round =>
    obtain ⟨k, hk, rfl, hbw⟩ := hrel
    have HB : Hid (Below w.heap.size w wr) := hbw
    obtain ⟨⟨c0, c1⟩, f1, l1, hlx⟩ := HR.out wr hbw
    clear hbw
    rcases (show k = 0 ∨ k = 1 ∨ k = 2 ∨ k = 3 ∨ k = 4 by omega) with rfl | rfl | rfl | rfl | rfl
    · obtain ⟨b, off, rfl, bl, p0⟩ := hlx.at K0.out
      obtain ⟨a0, ha0⟩ : ∃ a0 : Nat, 0 = a0 := ⟨0, rfl⟩
      have c1' : wr.cell? ⟨rb, 1, none⟩ = some (.int .i64 (a0 : Int)) := by rw [← ha0]; exact c1
      have p0' : wr.cell? ⟨b, off + a0, none⟩ = some (.int .u8 86) := by rw [← ha0]; exact p0
      have i1 : (a0 : Int) < (l.length : Int) := by omega
      have i2 : a0 ≤ 4 := by omega
      have HA0 : Hid ((a0 : Int) = 0) := by show (a0 : Int) = 0; omega
      clear hlx c1 p0 ha0
      go_wp2_with fail
      go_quiet (fail)
      have HBQ : Hid (Below w.heap.size w (wr.drewN nq)) := HB.out.trans ⟨rfl, rfl, rfl, Nat.le_refl _, fun _ _ => rfl⟩
      go_wp2
      go_roundw
      case rel => exact ⟨1, by omega, by go_num, HBQ.out⟩
      case measure => simp [intOf]
    · obtain ⟨b, off, rfl, bl, p0⟩ := hlx.at K1.out
      have i1 : (1 : Int) < (l.length : Int) := by omega
      clear hlx
      go_wp2_with fail
      go_quiet (fail)
      have HBQ : Hid (Below w.heap.size w (wr.drewN nq)) := HB.out.trans ⟨rfl, rfl, rfl, Nat.le_refl _, fun _ _ => rfl⟩
      go_wp2
      go_roundw
      case rel => exact ⟨2, by omega, by go_num, HBQ.out⟩
      case measure => simp [intOf]
    · obtain ⟨b, off, rfl, bl, p0⟩ := hlx.at K2.out
      have i1 : (2 : Int) < (l.length : Int) := by omega
      clear hlx
      go_wp2_with fail
      go_quiet (fail)
      have HBQ : Hid (Below w.heap.size w (wr.drewN nq)) := HB.out.trans ⟨rfl, rfl, rfl, Nat.le_refl _, fun _ _ => rfl⟩
      go_wp2
      go_roundw
      case rel => exact ⟨3, by omega, by go_num, HBQ.out⟩
      case measure => simp [intOf]
    · obtain ⟨b, off, rfl, bl, p0⟩ := hlx.at K3.out
      have i1 : (3 : Int) < (l.length : Int) := by omega
      clear hlx
      go_wp2_with fail
      go_quiet (fail)
      have HBQ : Hid (Below w.heap.size w (wr.drewN nq)) := HB.out.trans ⟨rfl, rfl, rfl, Nat.le_refl _, fun _ _ => rfl⟩
      go_wp2
      go_roundw
      case rel => exact ⟨4, by omega, by go_num, HBQ.out⟩
      case measure => simp [intOf]
    · clear hlx
      have HQ : Hid (RdTo w (wr.setCell ⟨rb, 1, none⟩ (.int .i64 4)) rb lo l.length lc 4) := rdTo_set HRR.out HB.out
      go_wp2
      go_end0
      exact ⟨rfl, HQ.out⟩

set_option maxRecDepth 100000 in
set_option maxHeartbeats 4000000 in
theorem sign_4_0 (rb : Nat) (lo : Option Addr) (lc : Nat) (l : List Nat) (ec : Int) (hec : ec ≠ 0) (w : World) (hr : w.heap[rb]? = some (.cells #[.slice lo l.length lc, .int .i64 4] 104 (0, 0))) (hl : HasB w (.slice lo l.length lc) l) (hlen : 8 ≤ l.length)  (x : Nat) (hx : l[4]? = some x) (hxn : x ≠ 1) :
    Calls Tryd.prog 54 #[.pointer (some ⟨rb, 0, none⟩), .string { data := #[1, 0, 0, 0] }, .int .i64 ec] w fun e w' => Thrown w' (ec, [(2, 4)]) e ∧ Below w.heap.size w w' := by
  have HRR : Hid (w.heap[rb]? = some (.cells #[.slice lo l.length lc, .int .i64 4] 104 (0, 0))) := hr
  have HR : Hid (∀ wx, Below w.heap.size w wx → (wx.cell? ⟨rb, 0, none⟩ = some (.slice lo l.length lc) ∧ wx.cell? ⟨rb, 1, none⟩ = some (.int .i64 4)) ∧ wx.frozen? ⟨rb, 1, none⟩ = false ∧ rb < wx.heap.size ∧ HasB wx (.slice lo l.length lc) l) := fun wx hx => by
    have q := (hx.block _ (w_lt_get hr)).trans hr
    obtain ⟨q0, q1, q2, q3⟩ := cell2I q
    exact ⟨⟨q0, q1⟩, q3, w_lt_get q, hl.keep hx⟩
  have HG : Hid (∀ (i : Int) wx, Calls Tryd.prog 73 #[.int .i64 i, .int .i64 ec] wx fun e w' => Thrown w' (ec, [(2, i)]) e ∧ Below wx.heap.size wx w') := fun i wx => giveUp_calls i ec hec wx
  have KX : Hid (l[4]? = some x) := hx
  clear hr hl hx
  go_enter Tryd.func54, Tryd.ntmps54
  go_wp2_with fail
  go_loopw [9] (fun iv wr => ∃ k : Nat, k ≤ 0 ∧ iv = .int .i64 (k : Nat) ∧ Below w.heap.size w wr) (fun iv _ => 4 - (intOf iv).toNat)
  case atStart => exact ⟨0, by omega, rfl, Below.refl _ _⟩
  case round =>
    obtain ⟨k, hk, rfl, hbw⟩ := hrel
    have HB : Hid (Below w.heap.size w wr) := hbw
    obtain ⟨⟨c0, c1⟩, f1, l1, hlx⟩ := HR.out wr hbw
    clear hbw
    obtain rfl : k = 0 := by omega
    · obtain ⟨b, off, rfl, bl, p0⟩ := hlx.at KX.out
      have i1 : (4 : Int) < (l.length : Int) := by omega
      clear hlx
      have n1 : ¬ ((x : Int) = 1) := by omega
      have n2 : decide ((x : Int) = 1) = false := decide_eq_false n1
      go_wp2_with fail
      go_quiet (fail)
      have HBQ : Hid (Below w.heap.size w (wr.drewN nq)) := HB.out.trans ⟨rfl, rfl, rfl, Nat.le_refl _, fun _ _ => rfl⟩
      go_wp2_with (go_at_call 73; refine (HG.out _ _).mono ?_; rintro e w1 ⟨⟨T, z, rfl, ht⟩, hb⟩; have Y : Hid (IsTold w1 (ec, [(2, 4)]) (.iface T z) ∧ Below w.heap.size w w1) := ⟨ht, btrI HBQ.out hb⟩; clear ht hb)
      case roundEnd =>
        exfalso
        rename_i hq
        simp only [bne_eq_false_iff_eq] at hq
        exact n1 (hq.trans rfl)
      skip
      exact ⟨rfl, ⟨T, z, rfl, Y.out.1⟩, Y.out.2⟩

set_option maxRecDepth 100000 in
set_option maxHeartbeats 4000000 in
theorem sign_4_1 (rb : Nat) (lo : Option Addr) (lc : Nat) (l : List Nat) (ec : Int) (hec : ec ≠ 0) (w : World) (hr : w.heap[rb]? = some (.cells #[.slice lo l.length lc, .int .i64 4] 104 (0, 0))) (hl : HasB w (.slice lo l.length lc) l) (hlen : 8 ≤ l.length) (h0 : l[4]? = some 1) (x : Nat) (hx : l[5]? = some x) (hxn : x ≠ 0) :
    Calls Tryd.prog 54 #[.pointer (some ⟨rb, 0, none⟩), .string { data := #[1, 0, 0, 0] }, .int .i64 ec] w fun e w' => Thrown w' (ec, [(2, 5)]) e ∧ Below w.heap.size w w' := by
  have HRR : Hid (w.heap[rb]? = some (.cells #[.slice lo l.length lc, .int .i64 4] 104 (0, 0))) := hr
  have HR : Hid (∀ wx, Below w.heap.size w wx → (wx.cell? ⟨rb, 0, none⟩ = some (.slice lo l.length lc) ∧ wx.cell? ⟨rb, 1, none⟩ = some (.int .i64 4)) ∧ wx.frozen? ⟨rb, 1, none⟩ = false ∧ rb < wx.heap.size ∧ HasB wx (.slice lo l.length lc) l) := fun wx hx => by
    have q := (hx.block _ (w_lt_get hr)).trans hr
    obtain ⟨q0, q1, q2, q3⟩ := cell2I q
    exact ⟨⟨q0, q1⟩, q3, w_lt_get q, hl.keep hx⟩
  have HG : Hid (∀ (i : Int) wx, Calls Tryd.prog 73 #[.int .i64 i, .int .i64 ec] wx fun e w' => Thrown w' (ec, [(2, i)]) e ∧ Below wx.heap.size wx w') := fun i wx => giveUp_calls i ec hec wx
  have K0 : Hid (l[4]? = some 1) := h0
  have KX : Hid (l[5]? = some x) := hx
  clear hr hl h0 hx
  go_enter Tryd.func54, Tryd.ntmps54
  go_wp2_with fail
  go_loopw [9] (fun iv wr => ∃ k : Nat, k ≤ 1 ∧ iv = .int .i64 (k : Nat) ∧ Below w.heap.size w wr) (fun iv _ => 4 - (intOf iv).toNat)
  case atStart => exact ⟨0, by omega, rfl, Below.refl _ _⟩
  case round =>
    obtain ⟨k, hk, rfl, hbw⟩ := hrel
    have HB : Hid (Below w.heap.size w wr) := hbw
    obtain ⟨⟨c0, c1⟩, f1, l1, hlx⟩ := HR.out wr hbw
    clear hbw
    rcases (show k = 0 ∨ k = 1 by omega) with rfl | rfl
    · obtain ⟨b, off, rfl, bl, p0⟩ := hlx.at K0.out
      have i1 : (4 : Int) < (l.length : Int) := by omega
      clear hlx
      go_wp2_with fail
      go_quiet (fail)
      have HBQ : Hid (Below w.heap.size w (wr.drewN nq)) := HB.out.trans ⟨rfl, rfl, rfl, Nat.le_refl _, fun _ _ => rfl⟩
      go_wp2
      go_roundw
      case rel => exact ⟨1, by omega, by go_num, HBQ.out⟩
      case measure => simp [intOf]
    · obtain ⟨b, off, rfl, bl, p0⟩ := hlx.at KX.out
      have i1 : (5 : Int) < (l.length : Int) := by omega
      clear hlx
      have n1 : ¬ ((x : Int) = 0) := by omega
      have n2 : decide ((x : Int) = 0) = false := decide_eq_false n1
      go_wp2_with fail
      go_quiet (fail)
      have HBQ : Hid (Below w.heap.size w (wr.drewN nq)) := HB.out.trans ⟨rfl, rfl, rfl, Nat.le_refl _, fun _ _ => rfl⟩
      go_wp2_with (go_at_call 73; refine (HG.out _ _).mono ?_; rintro e w1 ⟨⟨T, z, rfl, ht⟩, hb⟩; have Y : Hid (IsTold w1 (ec, [(2, 5)]) (.iface T z) ∧ Below w.heap.size w w1) := ⟨ht, btrI HBQ.out hb⟩; clear ht hb)
      case roundEnd =>
        exfalso
        rename_i hq
        simp only [bne_eq_false_iff_eq] at hq
        exact n1 (hq.trans rfl)
      skip
      exact ⟨rfl, ⟨T, z, rfl, Y.out.1⟩, Y.out.2⟩

set_option maxRecDepth 100000 in
set_option maxHeartbeats 4000000 in
theorem sign_4_2 (rb : Nat) (lo : Option Addr) (lc : Nat) (l : List Nat) (ec : Int) (hec : ec ≠ 0) (w : World) (hr : w.heap[rb]? = some (.cells #[.slice lo l.length lc, .int .i64 4] 104 (0, 0))) (hl : HasB w (.slice lo l.length lc) l) (hlen : 8 ≤ l.length) (h0 : l[4]? = some 1) (h1 : l[5]? = some 0) (x : Nat) (hx : l[6]? = some x) (hxn : x ≠ 0) :
    Calls Tryd.prog 54 #[.pointer (some ⟨rb, 0, none⟩), .string { data := #[1, 0, 0, 0] }, .int .i64 ec] w fun e w' => Thrown w' (ec, [(2, 6)]) e ∧ Below w.heap.size w w' := by
  have HRR : Hid (w.heap[rb]? = some (.cells #[.slice lo l.length lc, .int .i64 4] 104 (0, 0))) := hr
  have HR : Hid (∀ wx, Below w.heap.size w wx → (wx.cell? ⟨rb, 0, none⟩ = some (.slice lo l.length lc) ∧ wx.cell? ⟨rb, 1, none⟩ = some (.int .i64 4)) ∧ wx.frozen? ⟨rb, 1, none⟩ = false ∧ rb < wx.heap.size ∧ HasB wx (.slice lo l.length lc) l) := fun wx hx => by
    have q := (hx.block _ (w_lt_get hr)).trans hr
    obtain ⟨q0, q1, q2, q3⟩ := cell2I q
    exact ⟨⟨q0, q1⟩, q3, w_lt_get q, hl.keep hx⟩
  have HG : Hid (∀ (i : Int) wx, Calls Tryd.prog 73 #[.int .i64 i, .int .i64 ec] wx fun e w' => Thrown w' (ec, [(2, i)]) e ∧ Below wx.heap.size wx w') := fun i wx => giveUp_calls i ec hec wx
  have K0 : Hid (l[4]? = some 1) := h0
  have K1 : Hid (l[5]? = some 0) := h1
  have KX : Hid (l[6]? = some x) := hx
  clear hr hl h0 h1 hx
  go_enter Tryd.func54, Tryd.ntmps54
  go_wp2_with fail
  go_loopw [9] (fun iv wr => ∃ k : Nat, k ≤ 2 ∧ iv = .int .i64 (k : Nat) ∧ Below w.heap.size w wr) (fun iv _ => 4 - (intOf iv).toNat)
  case atStart => exact ⟨0, by omega, rfl, Below.refl _ _⟩
  case round =>
    obtain ⟨k, hk, rfl, hbw⟩ := hrel
    have HB : Hid (Below w.heap.size w wr) := hbw
    obtain ⟨⟨c0, c1⟩, f1, l1, hlx⟩ := HR.out wr hbw
    clear hbw
    rcases (show k = 0 ∨ k = 1 ∨ k = 2 by omega) with rfl | rfl | rfl
    · obtain ⟨b, off, rfl, bl, p0⟩ := hlx.at K0.out
      have i1 : (4 : Int) < (l.length : Int) := by omega
      clear hlx
      go_wp2_with fail
      go_quiet (fail)
      have HBQ : Hid (Below w.heap.size w (wr.drewN nq)) := HB.out.trans ⟨rfl, rfl, rfl, Nat.le_refl _, fun _ _ => rfl⟩
      go_wp2
      go_roundw
      case rel => exact ⟨1, by omega, by go_num, HBQ.out⟩
      case measure => simp [intOf]
    · obtain ⟨b, off, rfl, bl, p0⟩ := hlx.at K1.out
      have i1 : (5 : Int) < (l.length : Int) := by omega
      clear hlx
      go_wp2_with fail
      go_quiet (fail)
      have HBQ : Hid (Below w.heap.size w (wr.drewN nq)) := HB.out.trans ⟨rfl, rfl, rfl, Nat.le_refl _, fun _ _ => rfl⟩
      go_wp2
      go_roundw
      case rel => exact ⟨2, by omega, by go_num, HBQ.out⟩
      case measure => simp [intOf]
    · obtain ⟨b, off, rfl, bl, p0⟩ := hlx.at KX.out
      have i1 : (6 : Int) < (l.length : Int) := by omega
      clear hlx
      have n1 : ¬ ((x : Int) = 0) := by omega
      have n2 : decide ((x : Int) = 0) = false := decide_eq_false n1
      go_wp2_with fail
      go_quiet (fail)
      have HBQ : Hid (Below w.heap.size w (wr.drewN nq)) := HB.out.trans ⟨rfl, rfl, rfl, Nat.le_refl _, fun _ _ => rfl⟩
      go_wp2_with (go_at_call 73; refine (HG.out _ _).mono ?_; rintro e w1 ⟨⟨T, z, rfl, ht⟩, hb⟩; have Y : Hid (IsTold w1 (ec, [(2, 6)]) (.iface T z) ∧ Below w.heap.size w w1) := ⟨ht, btrI HBQ.out hb⟩; clear ht hb)
      case roundEnd =>
        exfalso
        rename_i hq
        simp only [bne_eq_false_iff_eq] at hq
        exact n1 (hq.trans rfl)
      skip
      exact ⟨rfl, ⟨T, z, rfl, Y.out.1⟩, Y.out.2⟩

set_option maxRecDepth 100000 in
set_option maxHeartbeats 4000000 in
theorem sign_4_3 (rb : Nat) (lo : Option Addr) (lc : Nat) (l : List Nat) (ec : Int) (hec : ec ≠ 0) (w : World) (hr : w.heap[rb]? = some (.cells #[.slice lo l.length lc, .int .i64 4] 104 (0, 0))) (hl : HasB w (.slice lo l.length lc) l) (hlen : 8 ≤ l.length) (h0 : l[4]? = some 1) (h1 : l[5]? = some 0) (h2 : l[6]? = some 0) (x : Nat) (hx : l[7]? = some x) (hxn : x ≠ 0) :
    Calls Tryd.prog 54 #[.pointer (some ⟨rb, 0, none⟩), .string { data := #[1, 0, 0, 0] }, .int .i64 ec] w fun e w' => Thrown w' (ec, [(2, 7)]) e ∧ Below w.heap.size w w' := by
  have HRR : Hid (w.heap[rb]? = some (.cells #[.slice lo l.length lc, .int .i64 4] 104 (0, 0))) := hr
  have HR : Hid (∀ wx, Below w.heap.size w wx → (wx.cell? ⟨rb, 0, none⟩ = some (.slice lo l.length lc) ∧ wx.cell? ⟨rb, 1, none⟩ = some (.int .i64 4)) ∧ wx.frozen? ⟨rb, 1, none⟩ = false ∧ rb < wx.heap.size ∧ HasB wx (.slice lo l.length lc) l) := fun wx hx => by
    have q := (hx.block _ (w_lt_get hr)).trans hr
    obtain ⟨q0, q1, q2, q3⟩ := cell2I q
    exact ⟨⟨q0, q1⟩, q3, w_lt_get q, hl.keep hx⟩
  have HG : Hid (∀ (i : Int) wx, Calls Tryd.prog 73 #[.int .i64 i, .int .i64 ec] wx fun e w' => Thrown w' (ec, [(2, i)]) e ∧ Below wx.heap.size wx w') := fun i wx => giveUp_calls i ec hec wx
  have K0 : Hid (l[4]? = some 1) := h0
  have K1 : Hid (l[5]? = some 0) := h1
  have K2 : Hid (l[6]? = some 0) := h2
  have KX : Hid (l[7]? = some x) := hx
  clear hr hl h0 h1 h2 hx
  go_enter Tryd.func54, Tryd.ntmps54
  go_wp2_with fail
  go_loopw [9] (fun iv wr => ∃ k : Nat, k ≤ 3 ∧ iv = .int .i64 (k : Nat) ∧ Below w.heap.size w wr) (fun iv _ => 4 - (intOf iv).toNat)
  case atStart => exact ⟨0, by omega, rfl, Below.refl _ _⟩
  case round =>
    obtain ⟨k, hk, rfl, hbw⟩ := hrel
    have HB : Hid (Below w.heap.size w wr) := hbw
    obtain ⟨⟨c0, c1⟩, f1, l1, hlx⟩ := HR.out wr hbw
    clear hbw
    rcases (show k = 0 ∨ k = 1 ∨ k = 2 ∨ k = 3 by omega) with rfl | rfl | rfl | rfl
    · obtain ⟨b, off, rfl, bl, p0⟩ := hlx.at K0.out
      have i1 : (4 : Int) < (l.length : Int) := by omega
      clear hlx
      go_wp2_with fail
      go_quiet (fail)
      have HBQ : Hid (Below w.heap.size w (wr.drewN nq)) := HB.out.trans ⟨rfl, rfl, rfl, Nat.le_refl _, fun _ _ => rfl⟩
      go_wp2
      go_roundw
      case rel => exact ⟨1, by omega, by go_num, HBQ.out⟩
      case measure => simp [intOf]
    · obtain ⟨b, off, rfl, bl, p0⟩ := hlx.at K1.out
      have i1 : (5 : Int) < (l.length : Int) := by omega
      clear hlx
      go_wp2_with fail
      go_quiet (fail)
      have HBQ : Hid (Below w.heap.size w (wr.drewN nq)) := HB.out.trans ⟨rfl, rfl, rfl, Nat.le_refl _, fun _ _ => rfl⟩
      go_wp2
      go_roundw
      case rel => exact ⟨2, by omega, by go_num, HBQ.out⟩
      case measure => simp [intOf]
    · obtain ⟨b, off, rfl, bl, p0⟩ := hlx.at K2.out
      have i1 : (6 : Int) < (l.length : Int) := by omega
      clear hlx
      go_wp2_with fail
      go_quiet (fail)
      have HBQ : Hid (Below w.heap.size w (wr.drewN nq)) := HB.out.trans ⟨rfl, rfl, rfl, Nat.le_refl _, fun _ _ => rfl⟩
      go_wp2
      go_roundw
      case rel => exact ⟨3, by omega, by go_num, HBQ.out⟩
      case measure => simp [intOf]
    · obtain ⟨b, off, rfl, bl, p0⟩ := hlx.at KX.out
      have i1 : (7 : Int) < (l.length : Int) := by omega
      clear hlx
      have n1 : ¬ ((x : Int) = 0) := by omega
      have n2 : decide ((x : Int) = 0) = false := decide_eq_false n1
      go_wp2_with fail
      go_quiet (fail)
      have HBQ : Hid (Below w.heap.size w (wr.drewN nq)) := HB.out.trans ⟨rfl, rfl, rfl, Nat.le_refl _, fun _ _ => rfl⟩
      go_wp2_with (go_at_call 73; refine (HG.out _ _).mono ?_; rintro e w1 ⟨⟨T, z, rfl, ht⟩, hb⟩; have Y : Hid (IsTold w1 (ec, [(2, 7)]) (.iface T z) ∧ Below w.heap.size w w1) := ⟨ht, btrI HBQ.out hb⟩; clear ht hb)
      case roundEnd =>
        exfalso
        rename_i hq
        simp only [bne_eq_false_iff_eq] at hq
        exact n1 (hq.trans rfl)
      skip
      exact ⟨rfl, ⟨T, z, rfl, Y.out.1⟩, Y.out.2⟩

set_option maxRecDepth 100000 in
set_option maxHeartbeats 4000000 in
theorem sign_4_4 (rb : Nat) (lo : Option Addr) (lc : Nat) (l : List Nat) (ec : Int) (hec : ec ≠ 0) (w : World) (hr : w.heap[rb]? = some (.cells #[.slice lo l.length lc, .int .i64 4] 104 (0, 0))) (hl : HasB w (.slice lo l.length lc) l) (hlen : 8 ≤ l.length) (h0 : l[4]? = some 1) (h1 : l[5]? = some 0) (h2 : l[6]? = some 0) (h3 : l[7]? = some 0) :
    Calls Tryd.prog 54 #[.pointer (some ⟨rb, 0, none⟩), .string { data := #[1, 0, 0, 0] }, .int .i64 ec] w fun e w' => e = .returned (.tuple #[]) ∧ RdTo w w' rb lo l.length lc 8 := by
  have HRR : Hid (w.heap[rb]? = some (.cells #[.slice lo l.length lc, .int .i64 4] 104 (0, 0))) := hr
  have HR : Hid (∀ wx, Below w.heap.size w wx → (wx.cell? ⟨rb, 0, none⟩ = some (.slice lo l.length lc) ∧ wx.cell? ⟨rb, 1, none⟩ = some (.int .i64 4)) ∧ wx.frozen? ⟨rb, 1, none⟩ = false ∧ rb < wx.heap.size ∧ HasB wx (.slice lo l.length lc) l) := fun wx hx => by
    have q := (hx.block _ (w_lt_get hr)).trans hr
    obtain ⟨q0, q1, q2, q3⟩ := cell2I q
    exact ⟨⟨q0, q1⟩, q3, w_lt_get q, hl.keep hx⟩
  have HG : Hid (∀ (i : Int) wx, Calls Tryd.prog 73 #[.int .i64 i, .int .i64 ec] wx fun e w' => Thrown w' (ec, [(2, i)]) e ∧ Below wx.heap.size wx w') := fun i wx => giveUp_calls i ec hec wx
  have K0 : Hid (l[4]? = some 1) := h0
  have K1 : Hid (l[5]? = some 0) := h1
  have K2 : Hid (l[6]? = some 0) := h2
  have K3 : Hid (l[7]? = some 0) := h3
  clear hr hl h0 h1 h2 h3
  go_enter Tryd.func54, Tryd.ntmps54
  go_wp2_with fail
  go_loopw [9] (fun iv wr => ∃ k : Nat, k ≤ 4 ∧ iv = .int .i64 (k : Nat) ∧ Below w.heap.size w wr) (fun iv _ => 4 - (intOf iv).toNat)
  case atStart => exact ⟨0, by omega, rfl, Below.refl _ _⟩
  case round =>
    obtain ⟨k, hk, rfl, hbw⟩ := hrel
    have HB : Hid (Below w.heap.size w wr) := hbw
    obtain ⟨⟨c0, c1⟩, f1, l1, hlx⟩ := HR.out wr hbw
    clear hbw
    rcases (show k = 0 ∨ k = 1 ∨ k = 2 ∨ k = 3 ∨ k = 4 by omega) with rfl | rfl | rfl | rfl | rfl
    · obtain ⟨b, off, rfl, bl, p0⟩ := hlx.at K0.out
      have i1 : (4 : Int) < (l.length : Int) := by omega
      clear hlx
      go_wp2_with fail
      go_quiet (fail)
      have HBQ : Hid (Below w.heap.size w (wr.drewN nq)) := HB.out.trans ⟨rfl, rfl, rfl, Nat.le_refl _, fun _ _ => rfl⟩
      go_wp2
      go_roundw
      case rel => exact ⟨1, by omega, by go_num, HBQ.out⟩
      case measure => simp [intOf]
    · obtain ⟨b, off, rfl, bl, p0⟩ := hlx.at K1.out
      have i1 : (5 : Int) < (l.length : Int) := by omega
      clear hlx
      go_wp2_with fail
      go_quiet (fail)
      have HBQ : Hid (Below w.heap.size w (wr.drewN nq)) := HB.out.trans ⟨rfl, rfl, rfl, Nat.le_refl _, fun _ _ => rfl⟩
      go_wp2
      go_roundw
      case rel => exact ⟨2, by omega, by go_num, HBQ.out⟩
      case measure => simp [intOf]
    · obtain ⟨b, off, rfl, bl, p0⟩ := hlx.at K2.out
      have i1 : (6 : Int) < (l.length : Int) := by omega
      clear hlx
      go_wp2_with fail
      go_quiet (fail)
      have HBQ : Hid (Below w.heap.size w (wr.drewN nq)) := HB.out.trans ⟨rfl, rfl, rfl, Nat.le_refl _, fun _ _ => rfl⟩
      go_wp2
      go_roundw
      case rel => exact ⟨3, by omega, by go_num, HBQ.out⟩
      case measure => simp [intOf]
    · obtain ⟨b, off, rfl, bl, p0⟩ := hlx.at K3.out
      have i1 : (7 : Int) < (l.length : Int) := by omega
      clear hlx
      go_wp2_with fail
      go_quiet (fail)
      have HBQ : Hid (Below w.heap.size w (wr.drewN nq)) := HB.out.trans ⟨rfl, rfl, rfl, Nat.le_refl _, fun _ _ => rfl⟩
      go_wp2
      go_roundw
      case rel => exact ⟨4, by omega, by go_num, HBQ.out⟩
      case measure => simp [intOf]
    · clear hlx
      have HQ : Hid (RdTo w (wr.setCell ⟨rb, 1, none⟩ (.int .i64 8)) rb lo l.length lc 8) := rdTo_set HRR.out HB.out
      go_wp2
      go_end0
      exact ⟨rfl, HQ.out⟩
end Go.Proofs.YtamedcnjanichaaDoor

namespace Go.Proofs.YtamedcnjanichaaDoor
open Go.RowKit Go.Extern Cr

attribute [local go_sem] Oper.semAt_some

set_option maxRecDepth 100000 in
set_option maxHeartbeats 2000000 in
theorem count_bad (rb a x most : Nat) (lo : Option Addr) (lc : Nat) (l : List Nat) (w : World) (hr : w.heap[rb]? = some (.cells #[.slice lo l.length lc, .int .i64 (a : Int)] 104 (0, 0))) (hl : HasB w (.slice lo l.length lc) l) (hb : Bts l) (hm : l.length ≤ 281474976710656) (hcap : l.length ≤ lc) (hfit : a + 4 * 1 ≤ l.length) (hx : wordsOf l a 1 = [x]) (hxm : most < x) (hx4 : x < 4294967296) (ha9 : a ≤ 1073741824) :
    Calls Tryd.prog 55 #[.pointer (some ⟨rb, 0, none⟩), .int .i64 (most : Int)] w fun e w' => Thrown w' (9, [(2, (a : Int))]) e ∧ Below rb w w' := by
  have HW : Hid (Calls Tryd.prog 57 #[.pointer (some ⟨rb, 0, none⟩), .int .i64 1] w fun e w' => ∃ g cap, e = .returned (.slice (some ⟨g, 0, none⟩) 1 cap) ∧ RdTo w w' rb lo l.length lc ((a : Int) + 4 * 1) ∧ g < w'.heap.size ∧ w'.cell? ⟨g, 0, none⟩ = some (.int .u32 (x : Int))) := by
    refine (rWords_far rb a 1 lo lc l w hr hl hb hm hcap hfit ⟨ha9, by decide⟩).mono ?_
    rintro e w' ⟨mo, mc, rfl, h1, h2⟩
    rw [hx] at h2
    obtain ⟨g, cap, e, h3, h4⟩ := row_one h2
    injection e with e1 e2 e3
    subst e1 e3
    exact ⟨g, mc, rfl, h1, h3, h4⟩
  have HG : Hid (∀ wx, Calls Tryd.prog 73 #[.int .i64 (a : Int), .int .i64 9] wx fun e w' => Thrown w' (9, [(2, (a : Int))]) e ∧ Below wx.heap.size wx w') := fun wx => giveUp_calls (a : Int) 9 (by decide) wx
  obtain ⟨c0, c1, _, _⟩ := cell2I hr
  have l1 := w_lt_get hr
  have HL : Hid (rb < w.heap.size) := l1
  have d1 : decide ((most : Int) < (x : Int)) = true := decide_eq_true (by omega)
  have d2 : decide (most < x) = true := decide_eq_true (by omega)
  clear hr hl hb hx
  go_enter Tryd.func55, Tryd.ntmps55
  go_wp2_with fail
  refine HW.out.mono ?_
  rintro e y ⟨g, cap, rfl, hrd, hg, hc⟩
  have Y : Hid (RdTo w y rb lo l.length lc ((a : Int) + 4 * 1)) := hrd
  clear hrd c0 c1 l1
  go_wp2_with (go_at_call 73; refine (HG.out _).mono ?_; rintro e w1 ⟨⟨T, z, rfl, ht⟩, hb⟩; have Z : Hid (IsTold w1 (9, [(2, (a : Int))]) (.iface T z) ∧ Below rb w w1) := ⟨ht, Y.out.bel.trans (hb.mono (by have := w_lt_get Y.out.box; omega))⟩; clear ht hb)
  exact ⟨rfl, ⟨T, z, rfl, Z.out.1⟩, Z.out.2⟩

set_option maxRecDepth 100000 in
set_option maxHeartbeats 2000000 in
theorem end_short (rb : Nat) (lo : Option Addr) (lc n : Nat) (m a : Int) (w : World) (hr : w.heap[rb]? = some (.cells #[.slice lo n lc, .int .i64 a] 104 (0, 0))) (hn : (n : Int) < m) :
    Calls Tryd.prog 56 #[.pointer (some ⟨rb, 0, none⟩), .int .i64 m] w fun e w' => Thrown w' (10, [(2, (n : Int))]) e ∧ Below w.heap.size w w' := by
  have HRE : Hid (type_of% (reach_bad rb lo lc n m a w hr hn)) := reach_bad rb lo lc n m a w hr hn
  clear hr
  go_enter Tryd.func56, Tryd.ntmps56
  go_wp2_with (go_at_call 53; refine HRE.out.mono ?_; rintro e w1 ⟨⟨T, z, rfl, ht⟩, hb⟩; have Z : Hid (IsTold w1 (10, [(2, (n : Int))]) (.iface T z) ∧ Below w.heap.size w w1) := ⟨ht, hb⟩; clear ht hb)
  exact ⟨rfl, ⟨T, z, rfl, Z.out.1⟩, Z.out.2⟩

set_option maxRecDepth 100000 in
set_option maxHeartbeats 2000000 in
theorem end_extra (rb : Nat) (lo : Option Addr) (lc n m : Nat) (a : Int) (w : World) (hr : w.heap[rb]? = some (.cells #[.slice lo n lc, .int .i64 a] 104 (0, 0))) (hn : m < n) :
    Calls Tryd.prog 56 #[.pointer (some ⟨rb, 0, none⟩), .int .i64 (m : Int)] w fun e w' => Thrown w' (6, [(2, (m : Int))]) e ∧ Below w.heap.size w w' := by
  have HRE : Hid (type_of% (reach_good rb lo lc n m a w hr (Nat.le_of_lt hn))) := reach_good rb lo lc n m a w hr (Nat.le_of_lt hn)
  have HG : Hid (∀ wx, Calls Tryd.prog 73 #[.int .i64 (m : Int), .int .i64 6] wx fun e w' => Thrown w' (6, [(2, (m : Int))]) e ∧ Below wx.heap.size wx w') := fun wx => giveUp_calls (m : Int) 6 (by decide) wx
  obtain ⟨c0, c1, _, _⟩ := cell2I hr
  have l1 := w_lt_get hr
  have d1 : (n : Int) > (m : Int) := by omega
  clear hr
  go_enter Tryd.func56, Tryd.ntmps56
  go_wp2_with fail
  refine HRE.out.mono ?_
  rintro e y ⟨rfl, hy⟩
  have hy' := hy.symm
  clear hy
  subst hy'
  go_wp2_with (go_at_call 73; refine (HG.out _).mono ?_; rintro e w1 ⟨⟨T, z, rfl, ht⟩, hb⟩; have Z : Hid (IsTold w1 (6, [(2, (m : Int))]) (.iface T z) ∧ Below w.heap.size w w1) := ⟨ht, hb⟩; clear ht hb)
  exact ⟨rfl, ⟨T, z, rfl, Z.out.1⟩, Z.out.2⟩

set_option maxRecDepth 100000 in
set_option maxHeartbeats 2000000 in
theorem end_sum (rb : Nat) (lo : Option Addr) (lc : Nat) (l : List Nat) (a : Int) (w : World) (hr : w.heap[rb]? = some (.cells #[.slice lo l.length lc, .int .i64 a] 104 (0, 0))) (hl : HasB w (.slice lo l.length lc) l) (hb : Bts l) (hm : l.length ≤ 1073741824) (hcap : l.length ≤ lc) (hfit : fits l = false) (hf : HasFours w) (hg : 1 < w.heap.size) :
    Calls Tryd.prog 56 #[.pointer (some ⟨rb, 0, none⟩), .int .i64 (l.length : Int)] w fun e w' => Thrown w' (13, [(2, (l.length : Int) - 4)]) e ∧ Below w.heap.size w w' := by
  have HRE : Hid (type_of% (reach_good rb lo lc l.length l.length a w hr (Nat.le_refl _))) := reach_good rb lo lc l.length l.length a w hr (Nat.le_refl _)
  have HFT : Hid (Calls Tryd.prog 74 #[.slice lo l.length lc] w fun e w' => e = .returned (.bool false) ∧ Below w.heap.size w w') := by
    have q := cFits_calls lo lc l w hf hg hl hb (by omega) hcap
    rw [hfit] at q
    exact q
  have HG : Hid (∀ wx, Calls Tryd.prog 73 #[.int .i64 ((l.length : Int) - 4), .int .i64 13] wx fun e w' => Thrown w' (13, [(2, (l.length : Int) - 4)]) e ∧ Below wx.heap.size wx w') := fun wx => giveUp_calls ((l.length : Int) - 4) 13 (by decide) wx
  obtain ⟨c0, c1, _, _⟩ := cell2I hr
  have l1 := w_lt_get hr
  generalize l.length = n at *
  have ww : IntKind.i64.wrap ((n : Int) - 4) = (n : Int) - 4 := by rw [IntKind.wrap_i64]; omega
  clear hr hl hb hf
  go_enter Tryd.func56, Tryd.ntmps56
  go_wp2_with fail
  refine HRE.out.mono ?_
  rintro e y ⟨rfl, hy⟩
  have hy' := hy.symm
  clear hy
  subst hy'
  go_wp2_with fail
  refine HFT.out.mono ?_
  rintro e y1 ⟨rfl, hb1⟩
  have Y1 : Hid (Below w.heap.size w y1) := hb1
  clear hb1
  go_wp2_with (go_at_call 73; refine (HG.out _).mono ?_; rintro e w1 ⟨⟨T, z, rfl, ht⟩, hb⟩; have Z : Hid (IsTold w1 (13, [(2, (n : Int) - 4)]) (.iface T z) ∧ Below w.heap.size w w1) := ⟨ht, btrI Y1.out hb⟩; clear ht hb)
  exact ⟨rfl, ⟨T, z, rfl, Z.out.1⟩, Z.out.2⟩
end Go.Proofs.YtamedcnjanichaaDoor

namespace Go.Proofs.YtamedcnjanichaaDoor
open Go.RowKit Go.Extern Cr

attribute [local go_sem] Oper.semAt_some

def cN (l : List Nat) : Nat := num (piece l 8 4)
def cU (l : List Nat) : Nat := num (piece l 12 4)
def cD (l : List Nat) : Nat := num (piece l 16 4)
def szM (l : List Nat) : Nat := 32 + 12 * cN l + 20 * (cU l + cD l)
/-- the error of bytes by their head, their counts and their sum. -/
def fE (l : List Nat) : Int × List (Int × Int) :=
  if l.length < 32 then (10, [(2, (l.length : Int))]) else
  if l.getD 0 0 ≠ 86 then (11, [(2, 0)]) else
  if l.getD 1 0 ≠ 68 then (11, [(2, 1)]) else
  if l.getD 2 0 ≠ 67 then (11, [(2, 2)]) else
  if l.getD 3 0 ≠ 84 then (11, [(2, 3)]) else
  if l.getD 4 0 ≠ 1 then (12, [(2, 4)]) else
  if l.getD 5 0 ≠ 0 then (12, [(2, 5)]) else
  if l.getD 6 0 ≠ 0 then (12, [(2, 6)]) else
  if l.getD 7 0 ≠ 0 then (12, [(2, 7)]) else
  if 65536 < cN l then (9, [(2, 8)]) else
  if 1048576 < cU l then (9, [(2, 12)]) else
  if 1048576 < cD l then (9, [(2, 16)]) else
  if l.length < szM l then (10, [(2, (l.length : Int))]) else
  if szM l < l.length then (6, [(2, (szM l : Int))]) else
  if fits l = false then (13, [(2, (l.length : Int) - 4)]) else (0, [])
theorem get_of {l : List Nat} {i : Nat} (h : i < l.length) : l[i]? = some (l.getD i 0) := by
  rw [List.getElem?_eq_getElem h, List.getD_eq_getElem?_getD, List.getElem?_eq_getElem h]
  rfl

set_option maxRecDepth 100000 in
set_option maxHeartbeats 4000000 in
theorem hierOf_bad (lo : Option Addr) (lc : Nat) (l : List Nat) (w : World) (hl : HasB w (.slice lo l.length lc) l) (hcap : l.length ≤ lc) (hb : Bts l) (hm : l.length ≤ 281474976710656) (hf : HasFours w) (hg : 1 < w.heap.size) (hne : fE l ≠ (0, [])) :
    Calls Tryd.prog 34 #[.slice lo l.length lc] w fun e w' => Thrown w' (fE l) e ∧ Below w.heap.size w w' := by
  have R1 : Hid (∀ wx, RS w wx lo l.length lc 0 → Calls Tryd.prog 53 #[.pointer (some ⟨w.heap.size + 1, 0, none⟩), .int .i64 32] wx fun e w' => (e = .returned (.tuple #[]) ∧ RS w w' lo l.length lc 0 ∧ 32 ≤ l.length) ∨ (Thrown w' (fE l) e ∧ Below w.heap.size w w')) := fun wx r => by
    by_cases h : l.length < 32
    · have hE : fE l = (10, [(2, (l.length : Int))]) := by unfold fE; rw [if_pos h]
      refine (reach_bad _ lo lc l.length 32 0 wx r.box (by omega)).mono ?_
      rintro e w' ⟨ht, hb2⟩
      rw [hE]
      exact Or.inr ⟨ht, btrI r.bel hb2⟩
    · refine (reach_good _ lo lc l.length 32 0 wx r.box (by omega)).mono ?_
      rintro e w' ⟨rfl, rfl⟩
      exact Or.inl ⟨rfl, r, by omega⟩
  have S1 : Hid (∀ wx, RS w wx lo l.length lc 0 → (32 ≤ l.length) → Calls Tryd.prog 54 #[.pointer (some ⟨w.heap.size + 1, 0, none⟩), .string { data := #[86, 68, 67, 84] }, .int .i64 11] wx fun e w' => (e = .returned (.tuple #[]) ∧ RS w w' lo l.length lc 4 ∧ l.getD 0 0 = 86 ∧ l.getD 1 0 = 68 ∧ l.getD 2 0 = 67 ∧ l.getD 3 0 = 84) ∨ (Thrown w' (fE l) e ∧ Below w.heap.size w w')) := fun wx r h32 => by
    by_cases k0 : l.getD 0 0 = 86
    case neg =>
      have hE : fE l = (11, [(2, 0)]) := by unfold fE; rw [if_neg (by omega), if_pos k0]
      refine (sign_0_0 _ lo lc l 11 (by decide) wx r.box (hl.keep r.bel) (by omega)  (l.getD 0 0) (get_of (by omega)) k0).mono ?_
      rintro e w' ⟨ht, hb2⟩
      rw [hE]
      exact Or.inr ⟨ht, btrI r.bel hb2⟩
    by_cases k1 : l.getD 1 0 = 68
    case neg =>
      have hE : fE l = (11, [(2, 1)]) := by unfold fE; rw [if_neg (by omega), if_neg (by rw [k0]; decide), if_pos k1]
      refine (sign_0_1 _ lo lc l 11 (by decide) wx r.box (hl.keep r.bel) (by omega) (by rw [← k0]; exact get_of (by omega)) (l.getD 1 0) (get_of (by omega)) k1).mono ?_
      rintro e w' ⟨ht, hb2⟩
      rw [hE]
      exact Or.inr ⟨ht, btrI r.bel hb2⟩
    by_cases k2 : l.getD 2 0 = 67
    case neg =>
      have hE : fE l = (11, [(2, 2)]) := by unfold fE; rw [if_neg (by omega), if_neg (by rw [k0]; decide), if_neg (by rw [k1]; decide), if_pos k2]
      refine (sign_0_2 _ lo lc l 11 (by decide) wx r.box (hl.keep r.bel) (by omega) (by rw [← k0]; exact get_of (by omega)) (by rw [← k1]; exact get_of (by omega)) (l.getD 2 0) (get_of (by omega)) k2).mono ?_
      rintro e w' ⟨ht, hb2⟩
      rw [hE]
      exact Or.inr ⟨ht, btrI r.bel hb2⟩
    by_cases k3 : l.getD 3 0 = 84
    case neg =>
      have hE : fE l = (11, [(2, 3)]) := by unfold fE; rw [if_neg (by omega), if_neg (by rw [k0]; decide), if_neg (by rw [k1]; decide), if_neg (by rw [k2]; decide), if_pos k3]
      refine (sign_0_3 _ lo lc l 11 (by decide) wx r.box (hl.keep r.bel) (by omega) (by rw [← k0]; exact get_of (by omega)) (by rw [← k1]; exact get_of (by omega)) (by rw [← k2]; exact get_of (by omega)) (l.getD 3 0) (get_of (by omega)) k3).mono ?_
      rintro e w' ⟨ht, hb2⟩
      rw [hE]
      exact Or.inr ⟨ht, btrI r.bel hb2⟩
    refine (sign_0_4 _ lo lc l 11 (by decide) wx r.box (hl.keep r.bel) (by omega) (by rw [← k0]; exact get_of (by omega)) (by rw [← k1]; exact get_of (by omega)) (by rw [← k2]; exact get_of (by omega)) (by rw [← k3]; exact get_of (by omega))).mono ?_
    rintro e w' ⟨rfl, q⟩
    exact Or.inl ⟨rfl, r.to q rfl, k0, k1, k2, k3⟩
  have S2 : Hid (∀ wx, RS w wx lo l.length lc 4 → (32 ≤ l.length) → l.getD 0 0 = 86 → l.getD 1 0 = 68 → l.getD 2 0 = 67 → l.getD 3 0 = 84 → Calls Tryd.prog 54 #[.pointer (some ⟨w.heap.size + 1, 0, none⟩), .string { data := #[1, 0, 0, 0] }, .int .i64 12] wx fun e w' => (e = .returned (.tuple #[]) ∧ RS w w' lo l.length lc ((8 : Nat) : Int) ∧ l.getD 4 0 = 1 ∧ l.getD 5 0 = 0 ∧ l.getD 6 0 = 0 ∧ l.getD 7 0 = 0) ∨ (Thrown w' (fE l) e ∧ Below w.heap.size w w')) := fun wx r h32 k0 k1 k2 k3 => by
    by_cases k4 : l.getD 4 0 = 1
    case neg =>
      have hE : fE l = (12, [(2, 4)]) := by unfold fE; rw [if_neg (by omega), if_neg (by rw [k0]; decide), if_neg (by rw [k1]; decide), if_neg (by rw [k2]; decide), if_neg (by rw [k3]; decide), if_pos k4]
      refine (sign_4_0 _ lo lc l 12 (by decide) wx r.box (hl.keep r.bel) (by omega)  (l.getD 4 0) (get_of (by omega)) k4).mono ?_
      rintro e w' ⟨ht, hb2⟩
      rw [hE]
      exact Or.inr ⟨ht, btrI r.bel hb2⟩
    by_cases k5 : l.getD 5 0 = 0
    case neg =>
      have hE : fE l = (12, [(2, 5)]) := by unfold fE; rw [if_neg (by omega), if_neg (by rw [k0]; decide), if_neg (by rw [k1]; decide), if_neg (by rw [k2]; decide), if_neg (by rw [k3]; decide), if_neg (by rw [k4]; decide), if_pos k5]
      refine (sign_4_1 _ lo lc l 12 (by decide) wx r.box (hl.keep r.bel) (by omega) (by rw [← k4]; exact get_of (by omega)) (l.getD 5 0) (get_of (by omega)) k5).mono ?_
      rintro e w' ⟨ht, hb2⟩
      rw [hE]
      exact Or.inr ⟨ht, btrI r.bel hb2⟩
    by_cases k6 : l.getD 6 0 = 0
    case neg =>
      have hE : fE l = (12, [(2, 6)]) := by unfold fE; rw [if_neg (by omega), if_neg (by rw [k0]; decide), if_neg (by rw [k1]; decide), if_neg (by rw [k2]; decide), if_neg (by rw [k3]; decide), if_neg (by rw [k4]; decide), if_neg (by rw [k5]; decide), if_pos k6]
      refine (sign_4_2 _ lo lc l 12 (by decide) wx r.box (hl.keep r.bel) (by omega) (by rw [← k4]; exact get_of (by omega)) (by rw [← k5]; exact get_of (by omega)) (l.getD 6 0) (get_of (by omega)) k6).mono ?_
      rintro e w' ⟨ht, hb2⟩
      rw [hE]
      exact Or.inr ⟨ht, btrI r.bel hb2⟩
    by_cases k7 : l.getD 7 0 = 0
    case neg =>
      have hE : fE l = (12, [(2, 7)]) := by unfold fE; rw [if_neg (by omega), if_neg (by rw [k0]; decide), if_neg (by rw [k1]; decide), if_neg (by rw [k2]; decide), if_neg (by rw [k3]; decide), if_neg (by rw [k4]; decide), if_neg (by rw [k5]; decide), if_neg (by rw [k6]; decide), if_pos k7]
      refine (sign_4_3 _ lo lc l 12 (by decide) wx r.box (hl.keep r.bel) (by omega) (by rw [← k4]; exact get_of (by omega)) (by rw [← k5]; exact get_of (by omega)) (by rw [← k6]; exact get_of (by omega)) (l.getD 7 0) (get_of (by omega)) k7).mono ?_
      rintro e w' ⟨ht, hb2⟩
      rw [hE]
      exact Or.inr ⟨ht, btrI r.bel hb2⟩
    refine (sign_4_4 _ lo lc l 12 (by decide) wx r.box (hl.keep r.bel) (by omega) (by rw [← k4]; exact get_of (by omega)) (by rw [← k5]; exact get_of (by omega)) (by rw [← k6]; exact get_of (by omega)) (by rw [← k7]; exact get_of (by omega))).mono ?_
    rintro e w' ⟨rfl, q⟩
    exact Or.inl ⟨rfl, r.to q rfl, k4, k5, k6, k7⟩
  have C1 : Hid (∀ wx, RS w wx lo l.length lc ((8 : Nat) : Int) → (32 ≤ l.length) → l.getD 0 0 = 86 → l.getD 1 0 = 68 → l.getD 2 0 = 67 → l.getD 3 0 = 84 → l.getD 4 0 = 1 → l.getD 5 0 = 0 → l.getD 6 0 = 0 → l.getD 7 0 = 0 → Calls Tryd.prog 55 #[.pointer (some ⟨w.heap.size + 1, 0, none⟩), .int .i64 65536] wx fun e w' => (e = .returned (.int .i64 (cN l : Int)) ∧ RS w w' lo l.length lc ((12 : Nat) : Int) ∧ cN l ≤ 65536) ∨ (Thrown w' (fE l) e ∧ Below w.heap.size w w')) := fun wx r h32 k0 k1 k2 k3 k4 k5 k6 k7 => by
    have hw : wordsOf l 8 1 = [cN l] := rfl
    by_cases hm1 : 65536 < cN l
    · have hE : fE l = (9, [(2, 8)]) := by unfold fE; rw [if_neg (by omega), if_neg (by rw [k0]; decide), if_neg (by rw [k1]; decide), if_neg (by rw [k2]; decide), if_neg (by rw [k3]; decide), if_neg (by rw [k4]; decide), if_neg (by rw [k5]; decide), if_neg (by rw [k6]; decide), if_neg (by rw [k7]; decide), if_pos hm1]
      refine (count_bad _ 8 (cN l) 65536 lo lc l wx r.box (hl.keep r.bel) hb hm hcap (by omega) hw hm1 (num_4 (piece_bts hb 8 4) (piece_len (by omega))) (by decide)).mono ?_
      rintro e w' ⟨ht, hb2⟩
      rw [hE]
      exact Or.inr ⟨ht, r.bel.trans (hb2.mono (by omega))⟩
    · refine (count_good _ 8 (cN l) 65536 lo lc l wx r.box (hl.keep r.bel) hb hm hcap (by omega) hw (by omega) (by omega) (by decide)).mono ?_
      rintro e w' ⟨rfl, q⟩
      exact Or.inl ⟨rfl, r.to q (by omega), by omega⟩
  have C2 : Hid (∀ wx, RS w wx lo l.length lc ((12 : Nat) : Int) → (32 ≤ l.length) → l.getD 0 0 = 86 → l.getD 1 0 = 68 → l.getD 2 0 = 67 → l.getD 3 0 = 84 → l.getD 4 0 = 1 → l.getD 5 0 = 0 → l.getD 6 0 = 0 → l.getD 7 0 = 0 → cN l ≤ 65536 → Calls Tryd.prog 55 #[.pointer (some ⟨w.heap.size + 1, 0, none⟩), .int .i64 1048576] wx fun e w' => (e = .returned (.int .i64 (cU l : Int)) ∧ RS w w' lo l.length lc ((16 : Nat) : Int) ∧ cU l ≤ 1048576) ∨ (Thrown w' (fE l) e ∧ Below w.heap.size w w')) := fun wx r h32 k0 k1 k2 k3 k4 k5 k6 k7 m0 => by
    have hw : wordsOf l 12 1 = [cU l] := rfl
    by_cases hm1 : 1048576 < cU l
    · have hE : fE l = (9, [(2, 12)]) := by unfold fE; rw [if_neg (by omega), if_neg (by rw [k0]; decide), if_neg (by rw [k1]; decide), if_neg (by rw [k2]; decide), if_neg (by rw [k3]; decide), if_neg (by rw [k4]; decide), if_neg (by rw [k5]; decide), if_neg (by rw [k6]; decide), if_neg (by rw [k7]; decide), if_neg (by omega), if_pos hm1]
      refine (count_bad _ 12 (cU l) 1048576 lo lc l wx r.box (hl.keep r.bel) hb hm hcap (by omega) hw hm1 (num_4 (piece_bts hb 12 4) (piece_len (by omega))) (by decide)).mono ?_
      rintro e w' ⟨ht, hb2⟩
      rw [hE]
      exact Or.inr ⟨ht, r.bel.trans (hb2.mono (by omega))⟩
    · refine (count_good _ 12 (cU l) 1048576 lo lc l wx r.box (hl.keep r.bel) hb hm hcap (by omega) hw (by omega) (by omega) (by decide)).mono ?_
      rintro e w' ⟨rfl, q⟩
      exact Or.inl ⟨rfl, r.to q (by omega), by omega⟩
  have C3 : Hid (∀ wx, RS w wx lo l.length lc ((16 : Nat) : Int) → (32 ≤ l.length) → l.getD 0 0 = 86 → l.getD 1 0 = 68 → l.getD 2 0 = 67 → l.getD 3 0 = 84 → l.getD 4 0 = 1 → l.getD 5 0 = 0 → l.getD 6 0 = 0 → l.getD 7 0 = 0 → cN l ≤ 65536 → cU l ≤ 1048576 → Calls Tryd.prog 55 #[.pointer (some ⟨w.heap.size + 1, 0, none⟩), .int .i64 1048576] wx fun e w' => (e = .returned (.int .i64 (cD l : Int)) ∧ RS w w' lo l.length lc ((20 : Nat) : Int) ∧ cD l ≤ 1048576) ∨ (Thrown w' (fE l) e ∧ Below w.heap.size w w')) := fun wx r h32 k0 k1 k2 k3 k4 k5 k6 k7 m0 m1 => by
    have hw : wordsOf l 16 1 = [cD l] := rfl
    by_cases hm1 : 1048576 < cD l
    · have hE : fE l = (9, [(2, 16)]) := by unfold fE; rw [if_neg (by omega), if_neg (by rw [k0]; decide), if_neg (by rw [k1]; decide), if_neg (by rw [k2]; decide), if_neg (by rw [k3]; decide), if_neg (by rw [k4]; decide), if_neg (by rw [k5]; decide), if_neg (by rw [k6]; decide), if_neg (by rw [k7]; decide), if_neg (by omega), if_neg (by omega), if_pos hm1]
      refine (count_bad _ 16 (cD l) 1048576 lo lc l wx r.box (hl.keep r.bel) hb hm hcap (by omega) hw hm1 (num_4 (piece_bts hb 16 4) (piece_len (by omega))) (by decide)).mono ?_
      rintro e w' ⟨ht, hb2⟩
      rw [hE]
      exact Or.inr ⟨ht, r.bel.trans (hb2.mono (by omega))⟩
    · refine (count_good _ 16 (cD l) 1048576 lo lc l wx r.box (hl.keep r.bel) hb hm hcap (by omega) hw (by omega) (by omega) (by decide)).mono ?_
      rintro e w' ⟨rfl, q⟩
      exact Or.inl ⟨rfl, r.to q (by omega), by omega⟩
  have Z1 : Hid (∀ wx, cN l ≤ 65536 → cU l ≤ 1048576 → cD l ≤ 1048576 → Calls Tryd.prog 27 #[.int .i64 (cN l : Int), .int .i64 (cU l : Int), .int .i64 (cD l : Int)] wx fun e w' => e = .returned (.int .i64 (szM l : Int)) ∧ w' = wx) := fun wx m0 m1 m2 => sizeOf_calls (cN l) (cU l) (cD l) (by omega) (by omega) (by omega) wx
  have E1 : Hid (∀ wx, RS w wx lo l.length lc ((20 : Nat) : Int) → (32 ≤ l.length) → l.getD 0 0 = 86 → l.getD 1 0 = 68 → l.getD 2 0 = 67 → l.getD 3 0 = 84 → l.getD 4 0 = 1 → l.getD 5 0 = 0 → l.getD 6 0 = 0 → l.getD 7 0 = 0 → cN l ≤ 65536 → cU l ≤ 1048576 → cD l ≤ 1048576 → Calls Tryd.prog 56 #[.pointer (some ⟨w.heap.size + 1, 0, none⟩), .int .i64 (szM l : Int)] wx fun e w' => (Thrown w' (fE l) e ∧ Below w.heap.size w w')) := fun wx r h32 k0 k1 k2 k3 k4 k5 k6 k7 m0 m1 m2 => by
    by_cases n1 : l.length < szM l
    · have hE : fE l = (10, [(2, (l.length : Int))]) := by unfold fE; rw [if_neg (by omega), if_neg (by rw [k0]; decide), if_neg (by rw [k1]; decide), if_neg (by rw [k2]; decide), if_neg (by rw [k3]; decide), if_neg (by rw [k4]; decide), if_neg (by rw [k5]; decide), if_neg (by rw [k6]; decide), if_neg (by rw [k7]; decide), if_neg (by omega), if_neg (by omega), if_neg (by omega), if_pos n1]
      refine (end_short _ lo lc l.length (szM l : Int) _ wx r.box (by omega)).mono ?_
      rintro e w' ⟨ht, hb2⟩
      rw [hE]
      exact ⟨ht, btrI r.bel hb2⟩
    by_cases n2 : szM l < l.length
    · have hE : fE l = (6, [(2, (szM l : Int))]) := by unfold fE; rw [if_neg (by omega), if_neg (by rw [k0]; decide), if_neg (by rw [k1]; decide), if_neg (by rw [k2]; decide), if_neg (by rw [k3]; decide), if_neg (by rw [k4]; decide), if_neg (by rw [k5]; decide), if_neg (by rw [k6]; decide), if_neg (by rw [k7]; decide), if_neg (by omega), if_neg (by omega), if_neg (by omega), if_neg n1, if_pos n2]
      refine (end_extra _ lo lc l.length (szM l) _ wx r.box n2).mono ?_
      rintro e w' ⟨ht, hb2⟩
      rw [hE]
      exact ⟨ht, btrI r.bel hb2⟩
    cases hft : fits l with
    | false =>
      have hE : fE l = (13, [(2, (l.length : Int) - 4)]) := by unfold fE; rw [if_neg (by omega), if_neg (by rw [k0]; decide), if_neg (by rw [k1]; decide), if_neg (by rw [k2]; decide), if_neg (by rw [k3]; decide), if_neg (by rw [k4]; decide), if_neg (by rw [k5]; decide), if_neg (by rw [k6]; decide), if_neg (by rw [k7]; decide), if_neg (by omega), if_neg (by omega), if_neg (by omega), if_neg n1, if_neg n2, if_pos hft]
      have q := end_sum _ lo lc l _ wx r.box (hl.keep r.bel) hb (by have e : szM l = 32 + 12 * cN l + 20 * (cU l + cD l) := rfl; omega) hcap hft (fours_keep hf hg r.bel) (Nat.lt_of_lt_of_le hg r.bel.size)
      rw [show l.length = szM l by omega] at q
      refine q.mono ?_
      rintro e w' ⟨ht, hb2⟩
      rw [hE, show l.length = szM l by omega]
      exact ⟨ht, btrI r.bel hb2⟩
    | true =>
      exact absurd (by unfold fE; rw [if_neg (by omega), if_neg (by rw [k0]; decide), if_neg (by rw [k1]; decide), if_neg (by rw [k2]; decide), if_neg (by rw [k3]; decide), if_neg (by rw [k4]; decide), if_neg (by rw [k5]; decide), if_neg (by rw [k6]; decide), if_neg (by rw [k7]; decide), if_neg (by omega), if_neg (by omega), if_neg (by omega), if_neg n1, if_neg n2, if_neg (by rw [hft]; decide)]) hne
  obtain ⟨W0, hW0⟩ : ∃ W0, (w.alloc (.cells #[.slice none 0 0, .slice none 0 0, .slice none 0 0, .slice none 0 0, .slice none 0 0] 25)).alloc (.cells #[.slice lo l.length lc, .int .i64 0] 104) = W0 := ⟨_, rfl⟩
  have Y0 : Hid (RS w W0 lo l.length lc 0) := by
    obtain ⟨g0, g1, g2⟩ := two_newI w (.cells #[.slice none 0 0, .slice none 0 0, .slice none 0 0, .slice none 0 0, .slice none 0 0] 25) (.cells #[.slice lo l.length lc, .int .i64 0] 104)
    rw [hW0] at g0 g1 g2
    exact ⟨g0, g1, g2⟩
  have HW0 : Hid ((w.alloc (.cells #[.slice none 0 0, .slice none 0 0, .slice none 0 0, .slice none 0 0, .slice none 0 0] 25)).alloc (.cells #[.slice lo l.length lc, .int .i64 0] 104) = W0) := hW0
  clear hb hW0 hl hf hg hne
  generalize szM l = SZ at *
  go_enter Tryd.func34, Tryd.ntmps34
  go_upto_region 2 with fail
  rw [HW0.out]
  go_wp2_with fail
  refine (R1.out _ Y0.out).mono ?_
  rintro e y1 (⟨rfl, r, h32⟩ | ⟨⟨T, z, rfl, ht⟩, hb⟩)
  case inr =>
    have Z : Hid (IsTold y1 (fE l) (.iface T z) ∧ Below w.heap.size w y1) := ⟨ht, hb⟩
    clear ht hb
    go_wp2
    exact ⟨rfl, ⟨T, z, rfl, Z.out.1⟩, Z.out.2⟩
  have Y1 : Hid (type_of% r) := r
  clear r
  go_wp2_with fail
  refine (S1.out _ Y1.out h32).mono ?_
  rintro e y2 (⟨rfl, r, k0, k1, k2, k3⟩ | ⟨⟨T, z, rfl, ht⟩, hb⟩)
  case inr =>
    have Z : Hid (IsTold y2 (fE l) (.iface T z) ∧ Below w.heap.size w y2) := ⟨ht, hb⟩
    clear ht hb
    go_wp2
    exact ⟨rfl, ⟨T, z, rfl, Z.out.1⟩, Z.out.2⟩
  have Y2 : Hid (type_of% r) := r
  clear r
  go_wp2_with fail
  refine (S2.out _ Y2.out h32 k0 k1 k2 k3).mono ?_
  rintro e y3 (⟨rfl, r, k4, k5, k6, k7⟩ | ⟨⟨T, z, rfl, ht⟩, hb⟩)
  case inr =>
    have Z : Hid (IsTold y3 (fE l) (.iface T z) ∧ Below w.heap.size w y3) := ⟨ht, hb⟩
    clear ht hb
    go_wp2
    exact ⟨rfl, ⟨T, z, rfl, Z.out.1⟩, Z.out.2⟩
  have Y3 : Hid (type_of% r) := r
  clear r
  go_wp2_with fail
  refine (C1.out _ Y3.out h32 k0 k1 k2 k3 k4 k5 k6 k7).mono ?_
  rintro e y4 (⟨rfl, r, m0⟩ | ⟨⟨T, z, rfl, ht⟩, hb⟩)
  case inr =>
    have Z : Hid (IsTold y4 (fE l) (.iface T z) ∧ Below w.heap.size w y4) := ⟨ht, hb⟩
    clear ht hb
    go_wp2
    exact ⟨rfl, ⟨T, z, rfl, Z.out.1⟩, Z.out.2⟩
  have Y4 : Hid (type_of% r) := r
  clear r
  go_wp2_with fail
  refine (C2.out _ Y4.out h32 k0 k1 k2 k3 k4 k5 k6 k7 m0).mono ?_
  rintro e y5 (⟨rfl, r, m1⟩ | ⟨⟨T, z, rfl, ht⟩, hb⟩)
  case inr =>
    have Z : Hid (IsTold y5 (fE l) (.iface T z) ∧ Below w.heap.size w y5) := ⟨ht, hb⟩
    clear ht hb
    go_wp2
    exact ⟨rfl, ⟨T, z, rfl, Z.out.1⟩, Z.out.2⟩
  have Y5 : Hid (type_of% r) := r
  clear r
  go_wp2_with fail
  refine (C3.out _ Y5.out h32 k0 k1 k2 k3 k4 k5 k6 k7 m0 m1).mono ?_
  rintro e y6 (⟨rfl, r, m2⟩ | ⟨⟨T, z, rfl, ht⟩, hb⟩)
  case inr =>
    have Z : Hid (IsTold y6 (fE l) (.iface T z) ∧ Below w.heap.size w y6) := ⟨ht, hb⟩
    clear ht hb
    go_wp2
    exact ⟨rfl, ⟨T, z, rfl, Z.out.1⟩, Z.out.2⟩
  have Y6 : Hid (type_of% r) := r
  clear r
  go_wp2_with fail
  refine (Z1.out _ m0 m1 m2).mono ?_
  rintro e y7 ⟨rfl, hy⟩
  have hy' := hy.symm
  clear hy
  subst hy'
  go_wp2_with (go_at_call 56; refine (E1.out _ Y6.out h32 k0 k1 k2 k3 k4 k5 k6 k7 m0 m1 m2).mono ?_; rintro e y8 ⟨⟨T, z, rfl, ht⟩, hb⟩; have Z : Hid (IsTold y8 (fE l) (.iface T z) ∧ Below w.heap.size w y8) := ⟨ht, hb⟩; clear ht hb)
  exact ⟨rfl, ⟨T, z, rfl, Z.out.1⟩, Z.out.2⟩
end Go.Proofs.YtamedcnjanichaaDoor

namespace Go.Proofs.YtamedcnjanichaaDoor
open Go.RowKit Go.Extern Cr

attribute [local go_sem] Oper.semAt_some

theorem one_if {c : Prop} [Decidable c] {x i : Int} {r : Int × List (Int × Int)} (h : r ≠ (0, []) → ∃ a j, r = (a, [(2, j)])) (g : (if c then (x, [(2, i)]) else r) ≠ (0, [])) : ∃ a j, (if c then (x, [(2, i)]) else r) = (a, [(2, j)]) := by
  by_cases hc : c
  · rw [if_pos hc]
    exact ⟨x, i, rfl⟩
  · rw [if_neg hc] at g ⊢
    exact h g
theorem fE_one (l : List Nat) (h : fE l ≠ (0, [])) : ∃ c i, fE l = (c, [(2, i)]) := by
  unfold fE at h ⊢
  exact one_if (one_if (one_if (one_if (one_if (one_if (one_if (one_if (one_if (one_if (one_if (one_if (one_if (one_if (one_if (fun g => absurd rfl g))))))))))))))) h

set_option maxRecDepth 100000 in
set_option maxHeartbeats 4000000 in
theorem decode_thrown (lo : Option Addr) (lc : Nat) (l : List Nat) (w : World) (hl : HasB w (.slice lo l.length lc) l) (hcap : l.length ≤ lc) (hb : Bts l) (hm : l.length ≤ 281474976710656) (hf : HasFours w) (hg : 1 < w.heap.size) (hty : HasType w) (hne : fE l ≠ (0, [])) :
    Calls Tryd.prog 12 #[.slice lo l.length lc] w fun e w' => ∃ T x, e = .returned (.tuple #[.agg #[.slice none 0 0, .slice none 0 0, .slice none 0 0, .slice none 0 0, .slice none 0 0], .iface T x]) ∧ IsTold w' (fE l) (.iface T x) ∧ Below w.heap.size w w' := by
  have hmf : ∀ (fn : Fn) (first cap : Array Value) (w : World), (Instr.makeFunc fn first cap).run Tryd.prog w = .ok (.func fn first cap) w := fun _ _ _ _ => rfl
  obtain ⟨W0, hW0⟩ : ∃ W0, (w.alloc (.cells #[.slice none 0 0, .slice none 0 0, .slice none 0 0, .slice none 0 0, .slice none 0 0] 25)).alloc (.cells #[.nilIface] 30) = W0 := ⟨_, rfl⟩
  have HW0 : Hid ((w.alloc (.cells #[.slice none 0 0, .slice none 0 0, .slice none 0 0, .slice none 0 0, .slice none 0 0] 25)).alloc (.cells #[.nilIface] 30) = W0) := hW0
  obtain ⟨g0, g1, g2⟩ := two_newI w (.cells #[.slice none 0 0, .slice none 0 0, .slice none 0 0, .slice none 0 0, .slice none 0 0] 25) (.cells #[.nilIface] 30)
  rw [hW0] at g0 g1 g2
  have HX : Hid (∀ wx, Below W0.heap.size W0 wx → wx.heap[w.heap.size]? = some (.cells #[.slice none 0 0, .slice none 0 0, .slice none 0 0, .slice none 0 0, .slice none 0 0] 25 (0, 0)) ∧ wx.heap[w.heap.size + 1]? = some (.cells #[.nilIface] 30 (0, 0)) ∧ Below w.heap.size w wx ∧ HasType wx) := fun wx hx => ⟨(hx.block _ (w_lt_get g0)).trans g0, (hx.block _ (w_lt_get g1)).trans g1, g2.trans (hx.mono g2.size), hty.keep (g2.trans (hx.mono g2.size)) hty.pos⟩
  have HH : Hid (Calls Tryd.prog 34 #[.slice lo l.length lc] W0 fun e w' => ∃ b, e = .panicked [{ v := .iface 76 (.pointer (some ⟨b, 0, none⟩)), recovered := false }] ∧ IsTold w' (fE l) (.iface 76 (.pointer (some ⟨b, 0, none⟩))) ∧ Below W0.heap.size W0 w') := by
    refine (hierOf_bad lo lc l W0 (hl.keep g2) hcap hb hm (fours_keep hf hg g2) (Nat.lt_of_lt_of_le hg g2.size) hne).mono ?_
    rintro e w' ⟨⟨T, x, rfl, ht⟩, hb2⟩
    obtain ⟨c, i, hE⟩ := fE_one l hne
    rw [hE] at ht ⊢
    rcases ht with ⟨q, _⟩ | ⟨h1, b, u, h2, h3, h4⟩
    · cases q
    · injection h2 with e1 e2
      subst e1 e2
      exact ⟨b, rfl, Or.inr ⟨h1, b, u, rfl, h3, h4⟩, hb2⟩
  have lz := w_lt_get g1
  clear g0 g1 g2 hW0 hl hf hg hb hm hty hne
  go_enter_defers Tryd.func12, Tryd.ntmps12
  go_upto_region 2 with fail
  rw [HW0.out]
  go_wp2_with (go_at_call 34; refine HH.out.mono ?_; rintro e w1 ⟨b, rfl, ht, hb⟩; have Y : Hid (IsTold w1 (fE l) (.iface 76 (.pointer (some ⟨b, 0, none⟩))) ∧ Below W0.heap.size W0 w1) := ⟨ht, hb⟩; clear ht hb)
  refine leaves_cons (f := 32) (args := #[.pointer (some ⟨w.heap.size, 0, none⟩), .pointer (some ⟨w.heap.size + 1, 0, none⟩)]) (by simp) (by simp [go_sem]) ?_
  obtain ⟨x1, x2, x3, x4⟩ := HX.out w1 Y.out.2
  refine (decode1_catch w.heap.size b w1 x4 x1 x2).mono ?_
  rintro e u' w2 ⟨rfl, rfl, p1, p2, p3, p4⟩
  obtain ⟨t0, t1, t2, t3, t4⟩ := Hi.five_cells p1
  have t5 : w2.cell? ⟨w.heap.size + 1, 0, none⟩ = some (.iface 76 (.pointer (some ⟨b, 0, none⟩))) := by simp [World.cell?, p2]
  have r1 := Y.out.1.keep p4
  have r2 : Below w.heap.size w w2 := x3.trans p3
  simp [Leaves, settle, results, Tryd.results12, go_sem, t0, t1, t2, t3, t4, t5]
  exact ⟨_, _, ⟨rfl, rfl⟩, r1, r2⟩
end Go.Proofs.YtamedcnjanichaaDoor

namespace Go.Proofs.YtamedcnjanichaaDoor
open Go.RowKit Go.Extern Cr

def lkOf (l : List Nat) (k : Nat) : Hi.Lk := ⟨num (piece l k 4), num (piece l (k + 12) 8), num (piece l (k + 4) 4), num (piece l (k + 8) 4)⟩
def lksOf (l : List Nat) (a c : Nat) : List Hi.Lk := (List.range c).map fun i => lkOf l (a + 20 * i)
def hOf (l : List Nat) : Hi.Hr := ⟨wordsOf l 20 (cN l), wordsOf l (20 + 4 * cN l) (cN l + 1), lksOf l (20 + 4 * cN l + 4 * (cN l + 1)) (cU l), wordsOf l (20 + 4 * cN l + 4 * (cN l + 1) + 4 * (5 * cU l)) (cN l + 1), lksOf l (20 + 4 * cN l + 4 * (cN l + 1) + 4 * (5 * cU l) + 4 * (cN l + 1)) (cD l)⟩
theorem lksOf_len (l : List Nat) (a c : Nat) : (lksOf l a c).length = c := by unfold lksOf; simp
theorem lksOf_succ (l : List Nat) (a c : Nat) : lksOf l a (c + 1) = lksOf l a c ++ [lkOf l (a + 20 * c)] := by
  unfold lksOf
  rw [List.range_succ, List.map_append]
  rfl
theorem num_appI : ∀ (p q : List Nat), num (p ++ q) = num p + 256 ^ p.length * num q
  | [], q => by simp [num]
  | v :: p, q => by
    show v + 256 * num (p ++ q) = v + 256 * num p + 256 ^ (p.length + 1) * num q
    rw [num_appI p q, Nat.pow_succ, Nat.mul_add, Nat.mul_comm (256 ^ p.length) 256, Nat.mul_assoc, Nat.add_assoc]
theorem piece_8 (l : List Nat) (i : Nat) : piece l i 8 = piece l i 4 ++ piece l (i + 4) 4 := by
  unfold piece
  rw [← List.drop_drop, show 8 = 4 + 4 from rfl, List.take_add]
theorem wt_halves {l : List Nat} {i : Nat} (hb : Bts l) (h : i + 8 ≤ l.length) : num (piece l i 8) % 4294967296 = num (piece l i 4) ∧ num (piece l i 8) / 4294967296 = num (piece l (i + 4) 4) := by
  have h1 : (piece l i 4).length = 4 := piece_len (by omega)
  have h2 := num_4 (piece_bts hb i 4) h1
  have e : (256 : Nat) ^ 4 = 4294967296 := by decide
  rw [piece_8, num_appI, h1, e]
  omega
theorem lkW_of {l : List Nat} {k : Nat} (hb : Bts l) (h : k + 20 ≤ l.length) : lkW (lkOf l k) = [num (piece l k 4), num (piece l (k + 4) 4), num (piece l (k + 8) 4), num (piece l (k + 12) 4), num (piece l (k + 16) 4)] := by
  obtain ⟨h1, h2⟩ := wt_halves (i := k + 12) hb (by omega)
  show [num (piece l k 4), num (piece l (k + 4) 4), num (piece l (k + 8) 4), num (piece l (k + 12) 8) % 4294967296, num (piece l (k + 12) 8) / 4294967296] = _
  rw [h1, h2]
theorem words_lks {l : List Nat} (hb : Bts l) (a : Nat) : ∀ c, a + 20 * c ≤ l.length → wordsOf l a (5 * c) = lksW (lksOf l a c)
  | 0, _ => rfl
  | c + 1, h => by
    rw [lksOf_succ, lksW_snoc, ← words_lks hb a c (by omega), lkW_of hb (by omega), show 5 * (c + 1) = 5 * c + 1 + 1 + 1 + 1 + 1 by omega, wordsOf_take, wordsOf_take, wordsOf_take, wordsOf_take, wordsOf_take]
    rw [show a + 4 * (5 * c) = a + 20 * c by omega, show a + 4 * (5 * c + 1) = a + 20 * c + 4 by omega, show a + 4 * (5 * c + 1 + 1) = a + 20 * c + 8 by omega, show a + 4 * (5 * c + 1 + 1 + 1) = a + 20 * c + 12 by omega, show a + 4 * (5 * c + 1 + 1 + 1 + 1) = a + 20 * c + 16 by omega]
    simp only [List.append_assoc, List.cons_append, List.nil_append]
theorem words_small {l : List Nat} (hb : Bts l) {a c : Nat} (h : a + 4 * c ≤ l.length) : ∀ x ∈ wordsOf l a c, x < 4294967296 := by
  intro x hx
  unfold wordsOf at hx
  obtain ⟨j, hj, rfl⟩ := List.mem_map.1 hx
  have hj' := List.mem_range.1 hj
  exact num_4 (piece_bts hb _ 4) (piece_len (by omega))
theorem lks_ok {l : List Nat} (hb : Bts l) {a c : Nat} (h : a + 20 * c ≤ l.length) : ∀ x ∈ lksOf l a c, x.ok := by
  intro x hx
  unfold lksOf at hx
  obtain ⟨j, hj, rfl⟩ := List.mem_map.1 hx
  have hj' := List.mem_range.1 hj
  exact ⟨num_4 (piece_bts hb _ 4) (piece_len (by omega)), num_le64 (piece_bts hb _ 8) (by rw [piece_len (by omega)]; decide), num_4 (piece_bts hb _ 4) (piece_len (by omega)), num_4 (piece_bts hb _ 4) (piece_len (by omega))⟩
theorem neg_if {c : Prop} [Decidable c] {x i : Int} {r : Int × List (Int × Int)} (g : (if c then (x, [(2, i)]) else r) = (0, [])) : ¬ c ∧ r = (0, []) := by
  by_cases hc : c
  · rw [if_pos hc] at g
    simp at g
  · rw [if_neg hc] at g
    exact ⟨hc, g⟩
theorem frame_ok {l : List Nat} (hb : Bts l) (h : fE l = (0, [])) : ImgOk l (hOf l) ∧ (∀ x ∈ (hOf l).node, x < 4294967296) ∧ (∀ x ∈ (hOf l).upF, x < 4294967296) ∧ (∀ x ∈ (hOf l).up, x.ok) ∧ (∀ x ∈ (hOf l).dnF, x < 4294967296) ∧ (∀ x ∈ (hOf l).dn, x.ok) := by
  unfold fE at h
  obtain ⟨h32, h⟩ := neg_if h
  obtain ⟨k0, h⟩ := neg_if h
  obtain ⟨k1, h⟩ := neg_if h
  obtain ⟨k2, h⟩ := neg_if h
  obtain ⟨k3, h⟩ := neg_if h
  obtain ⟨k4, h⟩ := neg_if h
  obtain ⟨k5, h⟩ := neg_if h
  obtain ⟨k6, h⟩ := neg_if h
  obtain ⟨k7, h⟩ := neg_if h
  obtain ⟨m0, h⟩ := neg_if h
  obtain ⟨m1, h⟩ := neg_if h
  obtain ⟨m2, h⟩ := neg_if h
  obtain ⟨n1, h⟩ := neg_if h
  obtain ⟨n2, h⟩ := neg_if h
  obtain ⟨hft, _⟩ := neg_if h
  have hlen : l.length = 32 + 12 * cN l + 20 * (cU l + cD l) := by
    have e : szM l = 32 + 12 * cN l + 20 * (cU l + cD l) := rfl
    omega
  have ln : (hOf l).node.length = cN l := wordsOf_lenI _ _ _
  have lu : (hOf l).up.length = cU l := lksOf_len _ _ _
  have ld : (hOf l).dn.length = cD l := lksOf_len _ _ _
  have luf : (hOf l).upF.length = cN l + 1 := wordsOf_lenI _ _ _
  have ldf : (hOf l).dnF.length = cN l + 1 := wordsOf_lenI _ _ _
  refine ⟨⟨by rw [ln, lu, ld]; exact hlen, hb, by simpa using hft, fun i x hx => ?_, ⟨by omega, by omega, by omega, by omega, by omega⟩, by rw [ln]; rfl, by rw [lu]; rfl, by rw [ld]; rfl, by rw [ln]; rfl, by rw [ln]; rfl, ?_, by rw [ln, lu]; rfl, ?_⟩, words_small hb (by omega), words_small hb (by omega), lks_ok hb (by omega), words_small hb (by omega), lks_ok hb (by omega)⟩
  · have hi : i < 8 := (List.getElem?_eq_some_iff.1 hx).1
    rw [get_of (by omega)]
    match i, hi with
    | 0, _ => rw [← hx, Decidable.not_not.1 k0]; rfl
    | 1, _ => rw [← hx, Decidable.not_not.1 k1]; rfl
    | 2, _ => rw [← hx, Decidable.not_not.1 k2]; rfl
    | 3, _ => rw [← hx, Decidable.not_not.1 k3]; rfl
    | 4, _ => rw [← hx, Decidable.not_not.1 k4]; rfl
    | 5, _ => rw [← hx, Decidable.not_not.1 k5]; rfl
    | 6, _ => rw [← hx, Decidable.not_not.1 k6]; rfl
    | 7, _ => rw [← hx, Decidable.not_not.1 k7]; rfl
  · rw [ln, lu]
    exact words_lks hb _ _ (by omega)
  · rw [ln, lu, ld]
    exact words_lks hb _ _ (by omega)
end Go.Proofs.YtamedcnjanichaaDoor

namespace Go.Proofs.YtamedcnjanichaaDoor
open Go.RowKit Go.Extern Cr

attribute [local go_sem] Oper.semAt_some

set_option maxRecDepth 100000 in
set_option maxHeartbeats 4000000 in
theorem decode_chk (lo : Option Addr) (lc : Nat) (l : List Nat) (h : Hi.Hr) (w : World) (hl : HasB w (.slice lo l.length lc) l) (hcap : l.length ≤ lc) (hi : ImgOk l h) (hf : HasFours w) (hg : 1 < w.heap.size) (k1 : ∀ x ∈ h.node, x < 4294967296) (k2 : ∀ x ∈ h.upF, x < 4294967296) (k3 : ∀ x ∈ h.up, x.ok) (k4 : ∀ x ∈ h.dnF, x < 4294967296) (k5 : ∀ x ∈ h.dn, x.ok) (hc : Hi.chk h ≠ (0, [])) :
    Calls Tryd.prog 12 #[.slice lo l.length lc] w fun e w' => ∃ T x, e = .returned (.tuple #[.agg #[.slice none 0 0, .slice none 0 0, .slice none 0 0, .slice none 0 0, .slice none 0 0], .iface T x]) ∧ IsTold w' (Hi.chk h) (.iface T x) ∧ Below w.heap.size w w' := by
  have hmf : ∀ (fn : Fn) (first cap : Array Value) (w : World), (Instr.makeFunc fn first cap).run Tryd.prog w = .ok (.func fn first cap) w := fun _ _ _ _ => rfl
  have hn := hi.sm.n
  have hu := hi.sm.u
  have hd := hi.sm.d
  obtain ⟨W0, hW0⟩ : ∃ W0, (w.alloc (.cells #[.slice none 0 0, .slice none 0 0, .slice none 0 0, .slice none 0 0, .slice none 0 0] 25)).alloc (.cells #[.nilIface] 30) = W0 := ⟨_, rfl⟩
  have HW0 : Hid ((w.alloc (.cells #[.slice none 0 0, .slice none 0 0, .slice none 0 0, .slice none 0 0, .slice none 0 0] 25)).alloc (.cells #[.nilIface] 30) = W0) := hW0
  obtain ⟨g0, g1, g2⟩ := two_newI w (.cells #[.slice none 0 0, .slice none 0 0, .slice none 0 0, .slice none 0 0, .slice none 0 0] 25) (.cells #[.nilIface] 30)
  rw [hW0] at g0 g1 g2
  have HX : Hid (∀ wx, Below W0.heap.size W0 wx → wx.heap[w.heap.size]? = some (.cells #[.slice none 0 0, .slice none 0 0, .slice none 0 0, .slice none 0 0, .slice none 0 0] 25 (0, 0)) ∧ wx.heap[w.heap.size + 1]? = some (.cells #[.nilIface] 30 (0, 0)) ∧ Below w.heap.size w wx) := fun wx hx => ⟨(hx.block _ (w_lt_get g0)).trans g0, (hx.block _ (w_lt_get g1)).trans g1, g2.trans (hx.mono g2.size)⟩
  have HH : Hid (Calls Tryd.prog 34 #[.slice lo l.length lc] W0 fun e w' => ∃ u, e = .returned (Hi.hvl u h) ∧ Hi.OwnH w' W0.heap.size u h ∧ Below W0.heap.size W0 w') := hierOf_good lo lc l h W0 (hl.keep g2) hcap hi (fours_keep hf hg g2) (Nat.lt_of_lt_of_le hg g2.size) k3 k5
  have HCK : Hid (∀ (u : Hi.HV) (wx : World), Hi.HasH wx u h → Calls Tryd.prog 11 #[Hi.hvl u h] wx fun e w' => ∃ T x, e = .returned (.iface T x) ∧ IsTold w' (Hi.chk h) (.iface T x) ∧ Below wx.heap.size wx w') := fun u wx hx => by
    refine (Hi.check_calls u h wx hx (by omega) (by omega) (by omega)).mono ?_
    rintro e w' ⟨v, rfl, hv, hb⟩
    obtain ⟨T, x, rfl⟩ := told_some hv hc
    exact ⟨T, x, rfl, hv, hb⟩
  have HOK : Hid (∀ (u : Hi.HV) (wx : World) (B : Nat), Hi.OwnH wx B u h → Hi.HasH wx u h) := fun u wx B g => ⟨Hi.ws_of_own g.node k1, Hi.ws_of_own g.upF k2, Hi.ls_of_own g.up k3, Hi.ws_of_own g.dnF k4, Hi.ls_of_own g.dn k5⟩
  have lz := w_lt_get g1
  clear g0 g1 g2 hW0 hl hi hf hg k1 k2 k3 k4 k5 hc
  unfold Hi.hvl at HH HCK
  go_enter_defers Tryd.func12, Tryd.ntmps12
  go_upto_region 2 with fail
  rw [HW0.out]
  go_wp2_with fail
  refine HH.out.mono ?_
  rintro e w1 ⟨⟨m1, m2, m3, m4, m5, c1, c2, c3, c4, c5⟩, rfl, ho, hb⟩
  have Y1 : Hid (Below W0.heap.size W0 w1 ∧ Hi.OwnH w1 W0.heap.size ⟨m1, m2, m3, m4, m5, c1, c2, c3, c4, c5⟩ h) := ⟨hb, ho⟩
  clear ho hb lz
  simp only
  obtain ⟨W2, hW2⟩ : ∃ W2, w1.alloc (.cells #[.slice m1 h.node.length c1, .slice m2 h.upF.length c2, .slice m3 h.up.length c3, .slice m4 h.dnF.length c4, .slice m5 h.dn.length c5] 25) = W2 := ⟨_, rfl⟩
  have HW2 : Hid (w1.alloc (.cells #[.slice m1 h.node.length c1, .slice m2 h.upF.length c2, .slice m3 h.up.length c3, .slice m4 h.dnF.length c4, .slice m5 h.dn.length c5] 25) = W2) := hW2
  have b2 : Below w1.heap.size w1 W2 := by rw [← hW2]; exact (Below.refl _ _).alloc (Nat.le_refl _) _
  have n2 : W2.heap[w1.heap.size]? = some (.cells #[.slice m1 h.node.length c1, .slice m2 h.upF.length c2, .slice m3 h.up.length c3, .slice m4 h.dnF.length c4, .slice m5 h.dn.length c5] 25) := by rw [← hW2]; exact heap_new _ _
  go_upto_region 3 with fail
  have HN : Hid (∀ wx, Below W2.heap.size W2 wx → wx.heap[w1.heap.size]? = some (.cells #[.slice m1 h.node.length c1, .slice m2 h.upF.length c2, .slice m3 h.up.length c3, .slice m4 h.dnF.length c4, .slice m5 h.dn.length c5] 25) ∧ Below W0.heap.size W0 wx ∧ Below w1.heap.size w1 wx) := fun wx hx => ⟨(hx.block _ (w_lt_get n2)).trans n2, btrI Y1.out.1 (btrI b2 hx), btrI b2 hx⟩
  have HUP : Hid (∀ wx, Below w1.heap.size w1 wx → Hi.OwnH wx W0.heap.size ⟨m1, m2, m3, m4, m5, c1, c2, c3, c4, c5⟩ h) := fun wx hx => by
    have kp : ∀ {T : TypeId} {zz n : Nat} {vv : Value} {xs : List Value}, w1.ownsRow W0.heap.size T zz vv n xs → wx.ownsRow W0.heap.size T zz vv n xs := fun ho => Hi.own_keep ho fun k cur hk hh => (hx.block k (ho.lt k hk).2).trans hh
    obtain ⟨q1, q2, q3, q4, q5⟩ := Y1.out.2
    exact ⟨kp q1, kp q2, kp q3, kp q4, kp q5⟩
  obtain ⟨d0, d1, d2, d3, d4⟩ := Hi.five_cells (HN.out W2 (Below.refl _ _)).1
  have ld := w_lt_get (HN.out W2 (Below.refl _ _)).1
  clear hW2 b2 n2
  go_wp2_with fail
  refine (HCK.out ⟨m1, m2, m3, m4, m5, c1, c2, c3, c4, c5⟩ _ (HOK.out _ _ _ (HUP.out W2 (HN.out W2 (Below.refl _ _)).2.2))).mono ?_
  rintro e w3 ⟨T, x, rfl, ht, hb⟩
  have Y3 : Hid (Below W2.heap.size W2 w3) := hb
  have YT : Hid (IsTold w3 (Hi.chk h) (.iface T x)) := ht
  clear ht hb d0 d1 d2 d3 d4 ld
  obtain ⟨d0, d1, d2, d3, d4⟩ := Hi.five_cells (HN.out w3 Y3.out).1
  have ld := w_lt_get (HN.out w3 Y3.out).1
  obtain ⟨x1, x2, x3⟩ := HX.out w3 (HN.out w3 Y3.out).2.1
  obtain ⟨z0, z1, z2, z3, z4⟩ := Hi.five_cells x1
  have lz := w_lt_get x1
  have le := w_lt_get x2
  have ez : w3.cell? ⟨w.heap.size + 1, 0, none⟩ = some .nilIface := by simp [World.cell?, x2]
  have ef : w3.frozen? ⟨w.heap.size + 1, 0, none⟩ = false := by simp [World.frozen?, x2]
  have fz : ∀ i, w3.frozen? ⟨w.heap.size, i, none⟩ = false := fun i => by simp [World.frozen?, x1]
  have fz0 := fz 0
  have fz1 := fz 1
  have fz2 := fz 2
  have fz3 := fz 3
  have fz4 := fz 4
  have XH : Hid (w3.heap[w.heap.size]? = some (.cells #[.slice none 0 0, .slice none 0 0, .slice none 0 0, .slice none 0 0, .slice none 0 0] 25 (0, 0)) ∧ w3.heap[w.heap.size + 1]? = some (.cells #[.nilIface] 30 (0, 0)) ∧ Below w.heap.size w w3) := ⟨x1, x2, x3⟩
  clear fz x1 x2 x3
  go_wp2
  refine leaves_cons (f := 32) (args := #[.pointer (some ⟨w.heap.size, 0, none⟩), .pointer (some ⟨w.heap.size + 1, 0, none⟩)]) (by simp) (by simp [go_sem]) ?_
  refine (decode1_idle ⟨w.heap.size, 0, none⟩ ⟨w.heap.size + 1, 0, none⟩ _).mono ?_
  rintro e u' w'' ⟨rfl, rfl, rfl⟩
  obtain ⟨x1, x2, x3⟩ := XH.out
  have hS := Hi.set_five x1 (.slice none 0 0) (.slice none 0 0) (.slice none 0 0) (.slice none 0 0) (.slice none 0 0)
  obtain ⟨hf1, hf2⟩ := Hi.five_far w3 w.heap.size (.slice none 0 0) (.slice none 0 0) (.slice none 0 0) (.slice none 0 0) (.slice none 0 0)
  have hbb : Below w.heap.size w (((((w3.setCell ⟨w.heap.size, 0, none⟩ (.slice none 0 0)).setCell ⟨w.heap.size, 1, none⟩ (.slice none 0 0)).setCell ⟨w.heap.size, 2, none⟩ (.slice none 0 0)).setCell ⟨w.heap.size, 3, none⟩ (.slice none 0 0)).setCell ⟨w.heap.size, 4, none⟩ (.slice none 0 0)) := ((((x3.setCell (p := ⟨w.heap.size, 0, none⟩) (Nat.le_refl _) _).setCell (p := ⟨w.heap.size, 1, none⟩) (Nat.le_refl _) _).setCell (p := ⟨w.heap.size, 2, none⟩) (Nat.le_refl _) _).setCell (p := ⟨w.heap.size, 3, none⟩) (Nat.le_refl _) _).setCell (p := ⟨w.heap.size, 4, none⟩) (Nat.le_refl _) _
  have hE : (((((w3.setCell ⟨w.heap.size, 0, none⟩ (.slice none 0 0)).setCell ⟨w.heap.size, 1, none⟩ (.slice none 0 0)).setCell ⟨w.heap.size, 2, none⟩ (.slice none 0 0)).setCell ⟨w.heap.size, 3, none⟩ (.slice none 0 0)).setCell ⟨w.heap.size, 4, none⟩ (.slice none 0 0)).heap[w.heap.size + 1]? = some (.cells #[.nilIface] 30 (0, 0)) := (hf1 _ (by omega)).trans x2
  have hK : Keeps w3 (((((w3.setCell ⟨w.heap.size, 0, none⟩ (.slice none 0 0)).setCell ⟨w.heap.size, 1, none⟩ (.slice none 0 0)).setCell ⟨w.heap.size, 2, none⟩ (.slice none 0 0)).setCell ⟨w.heap.size, 3, none⟩ (.slice none 0 0)).setCell ⟨w.heap.size, 4, none⟩ (.slice none 0 0)) := fun k c hk => by
    have hne : k ≠ w.heap.size := fun e => by
      subst e
      rw [x1] at hk
      simp at hk
    exact (hf1 k hne).trans hk
  clear z0 z1 z2 z3 z4 fz0 fz1 fz2 fz3 fz4 ez ef lz le hf1 hf2
  generalize (((((w3.setCell ⟨w.heap.size, 0, none⟩ (.slice none 0 0)).setCell ⟨w.heap.size, 1, none⟩ (.slice none 0 0)).setCell ⟨w.heap.size, 2, none⟩ (.slice none 0 0)).setCell ⟨w.heap.size, 3, none⟩ (.slice none 0 0)).setCell ⟨w.heap.size, 4, none⟩ (.slice none 0 0)) = WE at *
  have fin : ∀ WF : World, WF = WE.setCell ⟨w.heap.size + 1, 0, none⟩ (.iface T x) → WF.heap[w.heap.size]? = some (.cells #[.slice none 0 0, .slice none 0 0, .slice none 0 0, .slice none 0 0, .slice none 0 0] 25 (0, 0)) ∧ WF.heap[w.heap.size + 1]? = some (.cells #[.iface T x] 30 (0, 0)) ∧ Below w.heap.size w WF ∧ Keeps w3 WF := by
    rintro WF rfl
    have o : ∀ k, k ≠ w.heap.size + 1 → (WE.setCell ⟨w.heap.size + 1, 0, none⟩ (.iface T x)).heap[k]? = WE.heap[k]? := fun k hk => by first | exact heap_setCell_other _ _ _ _ hk | exact heap_setCell_other _ _ _ _ hk.symm
    refine ⟨(o _ (by omega)).trans hS, ?_, hbb.setCell (p := ⟨w.heap.size + 1, 0, none⟩) (show w.heap.size ≤ w.heap.size + 1 by omega) _, hK.trans fun k c hk => ?_⟩
    · rw [heap_setCell_same WE (w.heap.size + 1) 0 _ 30 _ hE]
      rfl
    · have hne : k ≠ w.heap.size + 1 := fun e => by
        subst e
        rw [hE] at hk
        simp at hk
      exact (o k hne).trans hk
  obtain ⟨p1, p2, p3, p4⟩ := fin _ rfl
  clear fin hS hbb hE hK x1 x2 x3
  generalize WE.setCell ⟨w.heap.size + 1, 0, none⟩ (.iface T x) = WF at *
  obtain ⟨t0, t1, t2, t3, t4⟩ := Hi.five_cells p1
  have t5 : WF.cell? ⟨w.heap.size + 1, 0, none⟩ = some (.iface T x) := by simp [World.cell?, p2]
  have r1 := YT.out.keep p4
  simp [Leaves, settle, results, Tryd.results12, go_sem, t0, t1, t2, t3, t4, t5]
  exact ⟨_, _, ⟨rfl, rfl⟩, r1, p3⟩
end Go.Proofs.YtamedcnjanichaaDoor

namespace Go.Proofs.YtamedcnjanichaaDoor
open Go.RowKit Go.Extern Cr

def noHr : Hi.Hr := ⟨[], [], [], [], []⟩
def nilV : Hi.HV := ⟨none, none, none, none, none, 0, 0, 0, 0, 0⟩
/-- the error that Decode answers. -/
def dE (l : List Nat) : Int × List (Int × Int) := if fE l = (0, []) then Hi.chk (hOf l) else fE l
/-- the hierarchy that Decode answers. -/
def dH (l : List Nat) : Hi.Hr := if dE l = (0, []) then hOf l else noHr
structure OkH (h : Hi.Hr) : Prop where
  k1 : ∀ x ∈ h.node, x < 4294967296
  k2 : ∀ x ∈ h.upF, x < 4294967296
  k3 : ∀ x ∈ h.up, x.ok
  k4 : ∀ x ∈ h.dnF, x < 4294967296
  k5 : ∀ x ∈ h.dn, x.ok
theorem hasH_own {w : World} {B : Nat} {u : Hi.HV} {h : Hi.Hr} (g : Hi.OwnH w B u h) (k : OkH h) : Hi.HasH w u h := ⟨Hi.ws_of_own g.node k.k1, Hi.ws_of_own g.upF k.k2, Hi.ls_of_own g.up k.k3, Hi.ws_of_own g.dnF k.k4, Hi.ls_of_own g.dn k.k5⟩
theorem own_noHr (w : World) (B : Nat) : Hi.OwnH w B nilV noHr := ⟨World.ownsRow_nil _ _ _ _, World.ownsRow_nil _ _ _ _, World.ownsRow_nil _ _ _ _, World.ownsRow_nil _ _ _ _, World.ownsRow_nil _ _ _ _⟩
theorem ok_noHr : OkH noHr := by
  refine ⟨?_, ?_, ?_, ?_, ?_⟩ <;> (intro x hx; cases hx)
theorem dE_bad {l : List Nat} (h : fE l ≠ (0, [])) : dE l = fE l ∧ dH l = noHr := by
  have e : dE l = fE l := if_neg h
  refine ⟨e, ?_⟩
  unfold dH
  rw [e, if_neg h]
theorem dE_chk {l : List Nat} (h : fE l = (0, [])) (hc : Hi.chk (hOf l) ≠ (0, [])) : dE l = Hi.chk (hOf l) ∧ dH l = noHr := by
  have e : dE l = Hi.chk (hOf l) := if_pos h
  refine ⟨e, ?_⟩
  unfold dH
  rw [e, if_neg hc]
theorem dE_good {l : List Nat} (h : fE l = (0, [])) (hc : Hi.chk (hOf l) = (0, [])) : dE l = (0, []) ∧ dH l = hOf l := by
  have e : dE l = (0, []) := (if_pos h).trans hc
  refine ⟨e, ?_⟩
  unfold dH
  rw [e, if_pos rfl]
theorem dH_ok {l : List Nat} (hb : Bts l) : OkH (dH l) := by
  by_cases h : fE l = (0, [])
  · obtain ⟨_, k1, k2, k3, k4, k5⟩ := frame_ok hb h
    by_cases hc : Hi.chk (hOf l) = (0, [])
    · rw [(dE_good h hc).2]
      exact ⟨k1, k2, k3, k4, k5⟩
    · rw [(dE_chk h hc).2]
      exact ok_noHr
  · rw [(dE_bad h).2]
    exact ok_noHr
theorem dH_short {l : List Nat} (hb : Bts l) : Hi.Short (dH l) := by
  by_cases h : fE l = (0, [])
  · obtain ⟨ho, _⟩ := frame_ok hb h
    by_cases hc : Hi.chk (hOf l) = (0, [])
    · rw [(dE_good h hc).2]
      obtain ⟨s1, s2, s3, s4, s5⟩ := ho.sm
      exact ⟨by omega, by omega, by omega, by omega, by omega⟩
    · rw [(dE_chk h hc).2]
      exact ⟨by decide, by decide, by decide, by decide, by decide⟩
  · rw [(dE_bad h).2]
    exact ⟨by decide, by decide, by decide, by decide, by decide⟩
theorem dE_len (l : List Nat) : (dE l).2.length ≤ 1 := by
  by_cases h : fE l = (0, [])
  · have e : dE l = Hi.chk (hOf l) := if_pos h
    rw [e]
    exact Hi.chk_places _
  · obtain ⟨c, i, e⟩ := fE_one l h
    rw [(dE_bad h).1, e]
    exact Nat.le_refl 1

theorem decode_all (lo : Option Addr) (lc : Nat) (l : List Nat) (w : World) (hl : HasB w (.slice lo l.length lc) l) (hcap : l.length ≤ lc) (hb : Bts l) (hm : l.length ≤ 281474976710656) (hf : HasFours w) (hg : 1 < w.heap.size) (hty : HasType w) :
    Calls Tryd.prog 12 #[.slice lo l.length lc] w fun e w' => ∃ u v, e = .returned (.tuple #[Hi.hvl u (dH l), v]) ∧ Hi.OwnH w' w.heap.size u (dH l) ∧ IsTold w' (dE l) v ∧ Below w.heap.size w w' := by
  by_cases h : fE l = (0, [])
  · obtain ⟨ho, k1, k2, k3, k4, k5⟩ := frame_ok hb h
    by_cases hc : Hi.chk (hOf l) = (0, [])
    · obtain ⟨e1, e2⟩ := dE_good h hc
      rw [e1, e2]
      refine (decode_good lo lc l (hOf l) w hl hcap ho hf hg k1 k2 k3 k4 k5 hc).mono ?_
      rintro e w' ⟨u, rfl, hu, hb2⟩
      exact ⟨u, _, rfl, hu, Or.inl ⟨rfl, rfl⟩, hb2⟩
    · obtain ⟨e1, e2⟩ := dE_chk h hc
      rw [e1, e2]
      refine (decode_chk lo lc l (hOf l) w hl hcap ho hf hg k1 k2 k3 k4 k5 hc).mono ?_
      rintro e w' ⟨T, x, rfl, ht, hb2⟩
      exact ⟨nilV, _, rfl, own_noHr _ _, ht, hb2⟩
  · obtain ⟨e1, e2⟩ := dE_bad h
    rw [e1, e2]
    refine (decode_thrown lo lc l w hl hcap hb hm hf hg hty h).mono ?_
    rintro e w' ⟨T, x, rfl, ht, hb2⟩
    exact ⟨nilV, _, rfl, own_noHr _ _, ht, hb2⟩
end Go.Proofs.YtamedcnjanichaaDoor

namespace Go.Proofs.YtamedcnjanichaaDoor
open Go.RowKit Go.Extern Cr

theorem le4_back : ∀ {p : List Nat}, Bts p → p.length = 4 → le4 (num p) = p
  | [a, b, c, d], h, _ => by
    have ha : a < 256 := h a (by simp)
    have hb : b < 256 := h b (by simp)
    have hc : c < 256 := h c (by simp)
    have hd : d < 256 := h d (by simp)
    have e : num [a, b, c, d] = a + 256 * (b + 256 * (c + 256 * (d + 256 * 0))) := rfl
    rw [e]
    unfold le4
    have e1 : (a + 256 * (b + 256 * (c + 256 * (d + 256 * 0)))) % 256 = a := by omega
    have e2 : (a + 256 * (b + 256 * (c + 256 * (d + 256 * 0)))) / 256 % 256 = b := by omega
    have e3 : (a + 256 * (b + 256 * (c + 256 * (d + 256 * 0)))) / 65536 % 256 = c := by omega
    have e4 : (a + 256 * (b + 256 * (c + 256 * (d + 256 * 0)))) / 16777216 % 256 = d := by omega
    rw [e1, e2, e3, e4]
theorem leN_back : ∀ {p : List Nat}, Bts p → p.length = 4 → leN (num p) 4 = p
  | [a, b, c, d], h, _ => by
    have ha : a < 256 := h a (by simp)
    have hb : b < 256 := h b (by simp)
    have hc : c < 256 := h c (by simp)
    have hd : d < 256 := h d (by simp)
    have e : num [a, b, c, d] = a + 256 * (b + 256 * (c + 256 * (d + 256 * 0))) := rfl
    rw [e]
    simp only [leN]
    have e1 : (a + 256 * (b + 256 * (c + 256 * (d + 256 * 0)))) % 256 = a := by omega
    have e2 : (a + 256 * (b + 256 * (c + 256 * (d + 256 * 0)))) / 256 % 256 = b := by omega
    have e3 : (a + 256 * (b + 256 * (c + 256 * (d + 256 * 0)))) / 256 / 256 % 256 = c := by omega
    have e4 : (a + 256 * (b + 256 * (c + 256 * (d + 256 * 0)))) / 256 / 256 / 256 % 256 = d := by omega
    rw [e1, e2, e3, e4]
theorem piece_add (l : List Nat) (a m n : Nat) : piece l a (m + n) = piece l a m ++ piece l (a + m) n := by
  unfold piece
  rw [← List.drop_drop, List.take_add]
theorem bytes_words {l : List Nat} (hb : Bts l) (a : Nat) : ∀ c, a + 4 * c ≤ l.length → bytesOf (wordsOf l a c) = piece l a (4 * c)
  | 0, _ => by simp [wordsOf, bytesOf, piece]
  | c + 1, h => by
    rw [wordsOf_take, bytesOf_snoc, bytes_words hb a c (by omega), leN_back (piece_bts hb _ 4) (piece_len (by omega)), show 4 * (c + 1) = 4 * c + 4 by omega, piece_add]
theorem words_add (l : List Nat) (a c : Nat) : ∀ d, wordsOf l a (c + d) = wordsOf l a c ++ wordsOf l (a + 4 * c) d
  | 0 => by simp [wordsOf]
  | d + 1 => by
    rw [← Nat.add_assoc, wordsOf_take, words_add l a c d, wordsOf_take, List.append_assoc, show a + 4 * (c + d) = a + 4 * c + 4 * d by omega]
theorem img_words {l : List Nat} {h : Hi.Hr} (hi : ImgOk l h) : wordsOf l 8 (imW h).length = imW h := by
  have hu := hi.sm.uf
  have hd := hi.sm.df
  rw [imW_len, hu, hd]
  rw [words_add l 8 (3 + h.node.length + (h.node.length + 1) + 5 * h.up.length + (h.node.length + 1)) (5 * h.dn.length), words_add l 8 (3 + h.node.length + (h.node.length + 1) + 5 * h.up.length) (h.node.length + 1), words_add l 8 (3 + h.node.length + (h.node.length + 1)) (5 * h.up.length), words_add l 8 (3 + h.node.length) (h.node.length + 1), words_add l 8 3 h.node.length, words_add l 8 2 1, words_add l 8 1 1]
  rw [show 8 + 4 * 1 = 12 from rfl, show 8 + 4 * 2 = 16 from rfl, show 8 + 4 * 3 = 20 from rfl, hi.w0, hi.w1, hi.w2, hi.nd,
    show 8 + 4 * (3 + h.node.length) = 20 + 4 * h.node.length by omega, hi.uf,
    show 8 + 4 * (3 + h.node.length + (h.node.length + 1)) = 20 + 4 * h.node.length + 4 * (h.node.length + 1) by omega, hi.up,
    show 8 + 4 * (3 + h.node.length + (h.node.length + 1) + 5 * h.up.length) = 20 + 4 * h.node.length + 4 * (h.node.length + 1) + 4 * (5 * h.up.length) by omega, hi.df,
    show 8 + 4 * (3 + h.node.length + (h.node.length + 1) + 5 * h.up.length + (h.node.length + 1)) = 20 + 4 * h.node.length + 4 * (h.node.length + 1) + 4 * (5 * h.up.length) + 4 * (h.node.length + 1) by omega, hi.dn]
  unfold imW
  rfl
theorem take_of_get {l m : List Nat} (hl : m.length ≤ l.length) (h : ∀ i x : Nat, m[i]? = some x → l[i]? = some x) : l.take m.length = m := by
  apply List.ext_getElem?
  intro i
  by_cases hi : i < m.length
  · rw [List.getElem?_take_of_lt hi, List.getElem?_eq_getElem hi]
    exact h i _ (List.getElem?_eq_getElem hi)
  · rw [List.getElem?_eq_none (by simp; omega), List.getElem?_eq_none (by omega)]
/-- bytes that are an image are the only ones of what they hold. -/
theorem img_only {l : List Nat} {h : Hi.Hr} (hi : ImgOk l h) : imB h = l := by
  have hlen := hi.len
  have hwl := imW_len h
  have hu := hi.sm.uf
  have hd := hi.sm.df
  have e8 : l.take 8 = head8 := take_of_get (m := head8) (by show 8 ≤ _; omega) hi.hd
  have e1 : l.take (l.length - 4) = imP h := by
    have q : l.length - 4 = 8 + 4 * (imW h).length := by omega
    have eb := bytes_words hi.bts 8 (imW h).length (by omega)
    rw [img_words hi] at eb
    unfold imP
    rw [q, List.take_add, e8, eb]
    rfl
  have hf := hi.fit
  unfold fits at hf
  obtain ⟨h4, hs⟩ := of_decide_eq_true hf
  unfold imB sealOf
  rw [← e1, ← hs, le4_back (hi.bts.drop _) (by rw [List.length_drop]; omega)]
  exact List.take_append_drop _ _
theorem dH_only {l : List Nat} (hb : Bts l) (h : dE l = (0, [])) : fE l = (0, []) ∧ Hi.chk (dH l) = (0, []) ∧ imB (dH l) = l := by
  by_cases hf : fE l = (0, [])
  · by_cases hc : Hi.chk (hOf l) = (0, [])
    · rw [(dE_good hf hc).2]
      exact ⟨hf, hc, img_only (frame_ok hb hf).1⟩
    · rw [(dE_chk hf hc).1] at h
      exact absurd h hc
  · rw [(dE_bad hf).1] at h
    exact absurd h hf
theorem dH_none {l : List Nat} (h : dE l ≠ (0, [])) : dH l = noHr := if_neg h
/-- an image has no error. -/
theorem pos_if {c : Prop} [Decidable c] {x r : Int × List (Int × Int)} (hc : ¬ c) (h : r = (0, [])) : (if c then x else r) = (0, []) := by rw [if_neg hc]; exact h
theorem getD_of {l : List Nat} {i x : Nat} (h : l[i]? = some x) : l.getD i 0 = x := by rw [List.getD_eq_getElem?_getD, h]; rfl
theorem img_counts {l : List Nat} {h : Hi.Hr} (hi : ImgOk l h) : cN l = h.node.length ∧ cU l = h.up.length ∧ cD l = h.dn.length := by
  have e0 : wordsOf l 8 1 = [cN l] := rfl
  have e1 : wordsOf l 12 1 = [cU l] := rfl
  have e2 : wordsOf l 16 1 = [cD l] := rfl
  refine ⟨?_, ?_, ?_⟩
  · have := e0.symm.trans hi.w0; simpa using this
  · have := e1.symm.trans hi.w1; simpa using this
  · have := e2.symm.trans hi.w2; simpa using this
theorem img_heads {l : List Nat} {h : Hi.Hr} (hi : ImgOk l h) : l.getD 0 0 = 86 ∧ l.getD 1 0 = 68 ∧ l.getD 2 0 = 67 ∧ l.getD 3 0 = 84 ∧ l.getD 4 0 = 1 ∧ l.getD 5 0 = 0 ∧ l.getD 6 0 = 0 ∧ l.getD 7 0 = 0 :=
  ⟨getD_of (hi.hd 0 86 rfl), getD_of (hi.hd 1 68 rfl), getD_of (hi.hd 2 67 rfl), getD_of (hi.hd 3 84 rfl), getD_of (hi.hd 4 1 rfl), getD_of (hi.hd 5 0 rfl), getD_of (hi.hd 6 0 rfl), getD_of (hi.hd 7 0 rfl)⟩
/-- bytes whose beginning is an image's, and that are more. -/
theorem img_more {l m : List Nat} {h : Hi.Hr} (hi : ImgOk l h) (hm : m ≠ []) : fE (l ++ m) = (6, [(2, (l.length : Int))]) := by
  obtain ⟨k0, k1, k2, k3, k4, k5, k6, k7⟩ := img_heads hi
  obtain ⟨n0, n1, n2⟩ := img_counts hi
  have hlen := hi.len
  have s1 := hi.sm.n
  have s2 := hi.sm.u
  have s3 := hi.sm.d
  have hml : 0 < m.length := List.length_pos_iff.2 hm
  have hg : ∀ i, i < 32 → (l ++ m).getD i 0 = l.getD i 0 := fun i hx => by
    rw [List.getD_eq_getElem?_getD, List.getElem?_append_left (by omega), ← List.getD_eq_getElem?_getD]
  have hp : ∀ a, a + 4 ≤ 32 → piece (l ++ m) a 4 = piece l a 4 := fun a ha => by
    unfold piece
    rw [List.drop_append_of_le_length (by omega), List.take_append_of_le_length (by rw [List.length_drop]; omega)]
  have c0 : cN (l ++ m) = cN l := by unfold cN; rw [hp 8 (by omega)]
  have c1 : cU (l ++ m) = cU l := by unfold cU; rw [hp 12 (by omega)]
  have c2 : cD (l ++ m) = cD l := by unfold cD; rw [hp 16 (by omega)]
  have hz : szM (l ++ m) = l.length := by unfold szM; rw [c0, c1, c2, n0, n1, n2]; omega
  have hL : (l ++ m).length = l.length + m.length := List.length_append
  unfold fE
  rw [if_neg (by omega), if_neg (by rw [hg 0 (by omega), k0]; decide), if_neg (by rw [hg 1 (by omega), k1]; decide), if_neg (by rw [hg 2 (by omega), k2]; decide), if_neg (by rw [hg 3 (by omega), k3]; decide), if_neg (by rw [hg 4 (by omega), k4]; decide), if_neg (by rw [hg 5 (by omega), k5]; decide), if_neg (by rw [hg 6 (by omega), k6]; decide), if_neg (by rw [hg 7 (by omega), k7]; decide), if_neg (by omega), if_neg (by omega), if_neg (by omega), if_neg (by omega), if_pos (by omega), hz]
/-- a beginning of an image. -/
theorem img_less {l : List Nat} {h : Hi.Hr} {k : Nat} (hi : ImgOk l h) (hk : k < l.length) : fE (l.take k) = (10, [(2, (k : Int))]) := by
  obtain ⟨k0, k1, k2, k3, k4, k5, k6, k7⟩ := img_heads hi
  obtain ⟨n0, n1, n2⟩ := img_counts hi
  have hlen := hi.len
  have s1 := hi.sm.n
  have s2 := hi.sm.u
  have s3 := hi.sm.d
  have hL : (l.take k).length = k := by rw [List.length_take]; omega
  unfold fE
  by_cases h32 : k < 32
  · rw [if_pos (by omega), hL]
  have hg : ∀ i, i < 32 → (l.take k).getD i 0 = l.getD i 0 := fun i hx => by
    rw [List.getD_eq_getElem?_getD, List.getElem?_take_of_lt (by omega), ← List.getD_eq_getElem?_getD]
  have hp : ∀ a, a + 4 ≤ 32 → piece (l.take k) a 4 = piece l a 4 := fun a ha => by
    unfold piece
    rw [List.drop_take, List.take_take, Nat.min_eq_left (by omega)]
  have c0 : cN (l.take k) = cN l := by unfold cN; rw [hp 8 (by omega)]
  have c1 : cU (l.take k) = cU l := by unfold cU; rw [hp 12 (by omega)]
  have c2 : cD (l.take k) = cD l := by unfold cD; rw [hp 16 (by omega)]
  have hz : szM (l.take k) = l.length := by unfold szM; rw [c0, c1, c2, n0, n1, n2]; omega
  rw [if_neg (by omega), if_neg (by rw [hg 0 (by omega), k0]; decide), if_neg (by rw [hg 1 (by omega), k1]; decide), if_neg (by rw [hg 2 (by omega), k2]; decide), if_neg (by rw [hg 3 (by omega), k3]; decide), if_neg (by rw [hg 4 (by omega), k4]; decide), if_neg (by rw [hg 5 (by omega), k5]; decide), if_neg (by rw [hg 6 (by omega), k6]; decide), if_neg (by rw [hg 7 (by omega), k7]; decide), if_neg (by omega), if_neg (by omega), if_neg (by omega), if_pos (by omega), hL]
/-- bytes whose sum does not fit are refused. -/
theorem unfit_bad {l : List Nat} (h : fits l = false) : fE l ≠ (0, []) := fun e => by
  unfold fE at e
  obtain ⟨_, e⟩ := neg_if e
  obtain ⟨_, e⟩ := neg_if e
  obtain ⟨_, e⟩ := neg_if e
  obtain ⟨_, e⟩ := neg_if e
  obtain ⟨_, e⟩ := neg_if e
  obtain ⟨_, e⟩ := neg_if e
  obtain ⟨_, e⟩ := neg_if e
  obtain ⟨_, e⟩ := neg_if e
  obtain ⟨_, e⟩ := neg_if e
  obtain ⟨_, e⟩ := neg_if e
  obtain ⟨_, e⟩ := neg_if e
  obtain ⟨_, e⟩ := neg_if e
  obtain ⟨_, e⟩ := neg_if e
  obtain ⟨_, e⟩ := neg_if e
  rw [if_pos h] at e
  simp at e
end Go.Proofs.YtamedcnjanichaaDoor
