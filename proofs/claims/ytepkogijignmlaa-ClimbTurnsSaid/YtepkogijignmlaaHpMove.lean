/- move: the thing at one place is taken over to the free one. -/
import Derived.Test.YtepkogijignmlaaHpMem
import Derived.Deep.RegionHeld3
import Derived.Deep.RegionLaw
import Derived.Laws.CopyOwn
import Derived.Laws.IdiomCopy
import Derived.Deep.DeepCutAuto
namespace Go.Proofs.Ytepkogijignmlaa.Hp
open Go.RowKit

attribute [local go_sem] Oper.semAt_some

theorem Try.info75 : (Try.prog.info? 145).map (fun i => (i.zero, i.size, i.bytes)) = some (some (.agg #[.int .u64 0, .int .u32 0]), 2, 16) := by kernel_rfl

/-- one thing is copied within a row. -/
theorem run_copy_thing (w : World) (ty : TypeId) (g o o' c c' : Nat) (a b x y : Value) (h0 : w.cell? ⟨g, o', none⟩ = some a) (h1 : w.cell? ⟨g, o' + 1, none⟩ = some b) (k0 : w.cell? ⟨g, o, none⟩ = some x) (k1 : w.cell? ⟨g, o + 1, none⟩ = some y)
    (f0 : w.frozen? ⟨g, o, none⟩ = false) (f1 : w.frozen? ⟨g, o + 1, none⟩ = false) (ha : a.oneCell' = true) (hb : b.oneCell' = true) :
    (Builtin.copy_ #[132, 132] ty #[.slice (some ⟨g, o, none⟩) 1 c, .slice (some ⟨g, o', none⟩) 1 c']).run Try.prog w = .ok (goInt 1) ((w.setCell ⟨g, o, none⟩ a).setCell ⟨g, o + 1, none⟩ b) := by
  have hl := run_loadCells_list (P := Try.prog) w ⟨g, o', none⟩ [a, b] (fun j v hj => by
    rcases j with _ | _ | j
    · simp at hj; subst hj; simpa [Addr.add] using h0
    · simp at hj; subst hj; simpa [Addr.add] using h1
    · simp at hj)
  have hst := run_storeCells_cells (P := Try.prog) g o [a, b] 0 w (fun j hj => by
      rcases j with _ | _ | j
      · simp [k0]
      · simp [k1]
      · simp at hj; omega) (fun j hj => by
      rcases j with _ | _ | j
      · simpa using f0
      · simpa using f1
      · simp at hj; omega) (fun v hv => by simp at hv; rcases hv with rfl | rfl <;> assumption)
  obtain ⟨i0, hi, hz1⟩ : ∃ i, Try.prog.info? 145 = some i ∧ i.size = 2 := by
    have h := Try.info75
    cases hi : Try.prog.info? 145 with
    | none => rw [hi] at h; cases h
    | some i => rw [hi] at h; simp at h; exact ⟨i, rfl, h.2.1⟩
  simp only [List.length_cons, List.length_nil, Nat.zero_add] at hl
  simp [Builtin.copy_, run_underlying Try.underlying132, Builtin.lenOf, Builtin.firstCells, sizeOf, typeInfo, hi, hz1, hl, hst, World.setCells]

theorem Try.elem60 : Try.prog.underlying 132 = some (.slice (Try.prog.elem 132)) := by kernel_rfl
theorem Try.size60 (w : World) : (sizeOf (Try.prog.elem 132)).run Try.prog w = .ok 2 w := by kernel_rfl
/-- 'places[i:i+1]'. -/
theorem slice_one (w : World) (g m cap i : Nat) (h : i < cap) : (Instr.slice 132 (.slice (some ⟨g, 0, none⟩) m cap) (some (.int .i64 (i : Int))) (some (.int .i64 ((i : Int) + 1))) none).run Try.prog w = .ok (.slice (some ⟨g, i * 2, none⟩) 1 (cap - i)) w := by
  rw [run_slice_lh (ht := Try.elem60) (h0 := by omega) (h1 := by omega) (h2 := by omega), Try.size60]
  have e1 : ((i : Int) + 1).toNat = i + 1 := by omega
  have e2 : (i : Int).toNat = i := by omega
  simp only [Result.andThen_ok, sliced, e1, e2]
  rw [if_neg (by omega)]
  simp [Addr.add]
  omega

theorem step_copy_thing {ops : Array Oper} {o : Oper} {a : Act} {w : World} {K : Act → World → Prop} {Q : Exit → Act → World → Prop} {E : Prop} (hg : o.guard = none) (d x : Operand)
    (hop : o.op = Op.call { callee := Callee.builtin Builtin.copy, args := #[d, x], argTypes := #[132, 132] }) (v u : Value) (hd : a.eval d = v) (hx : a.eval x = u) (v' : Value) (w' : World)
    (hr : ∀ ty, (Builtin.copy_ #[132, 132] ty #[v, u]).run Try.prog w = .ok v' w') (hK : K (a.put o.dst v') w') : if Region.wanted o (yielded ops a.tmps) = true then Oper.wp Try.prog o a w K Q else E := by
  have hw : Region.wanted o (yielded ops a.tmps) = true := by simp [Region.wanted, hg]
  rw [if_pos hw]
  unfold Oper.wp
  simp [execOp, hop, resolve, invoke, builtin, hd, hx, hr, Result.andThen]
  exact hK

theorem Fr.put {hb wb g o m cap : Nat} {sv : Value} {w w' : World} (h : Fr hb wb sv (.slice (some ⟨g, 0, none⟩) m cap) w w') (v : Value) : Fr hb wb sv (.slice (some ⟨g, 0, none⟩) m cap) w (w'.setCell ⟨g, o, none⟩ v) :=
  ⟨h.os, h.tape, h.output, by simpa using h.size, fun k hk h1 h2 h3 => (heap_setCell_other _ _ _ _ (fun e => h3 (h.own k hk (by rw [e]; rfl)).symm)).trans (h.block k hk h1 h2 h3), h.own⟩
theorem Fr.mark {hb wb o : Nat} {sv sv' : Value} {w w' : World} (h : Fr hb wb sv sv' w w') (v : Value) : Fr hb wb sv sv' w (w'.setCell ⟨wb, o, none⟩ v) :=
  ⟨h.os, h.tape, h.output, by simpa using h.size, fun k hk h1 h2 h3 => (heap_setCell_other _ _ _ _ h2).trans (h.block k hk h1 h2 h3), h.own⟩

set_option maxRecDepth 100000 in
set_option maxHeartbeats 1000000 in
theorem move_calls {hb wb n g cap m : Nat} {ps : List Th} {wh : List Int} {w : World} (h : Mem w hb wb n (.slice (some ⟨g, 0, none⟩) m cap) ps wh) (hm : ps.length = m) (hm6 : m ≤ 65536) (free from_ d : Nat) (x : Th) (yk : Int) (hx : ps[free]? = some x) (hy : ps[from_]? = some (yk, (d : Int))) (hdn : d < n) :
    Calls Try.prog 81 #[.pointer (some ⟨hb, 0, none⟩), .int .i64 free, .int .i64 from_] w fun e w' => e = .returned (.tuple #[]) ∧ Mem w' hb wb n (.slice (some ⟨g, 0, none⟩) m cap) (ps.set free (yk, (d : Int))) (wh.set d ((free : Int) + 1)) ∧ Fr hb wb (.slice (some ⟨g, 0, none⟩) m cap) (.slice (some ⟨g, 0, none⟩) m cap) w w' := by
  have hfl := (List.getElem?_eq_some_iff.1 hx).1
  have hfr := (List.getElem?_eq_some_iff.1 hy).1
  obtain ⟨c0, c1, _, _⟩ := h.cells
  obtain ⟨g', cap', e, hc1, hc2, hgl, hgh, hgw, k0, k1, f0, f1⟩ := h.thing hx
  cases e
  obtain ⟨g', cap', e, _, _, _, _, _, h0, h1, _, _⟩ := h.thing hy
  cases e
  have b1 : (0 : Int) ≤ (free : Int) := by omega
  have b2 : (free : Int) + 1 ≤ (cap : Int) := by omega
  have b3 : (0 : Int) ≤ (from_ : Int) := by omega
  have b4 : (from_ : Int) + 1 ≤ (cap : Int) := by omega
  have b5 : (free : Int) < (ps.length : Int) := by omega
  have b6 : (ps.length : Int) ≤ (cap : Int) := by omega
  have b7 : (0 : Int) ≤ (d : Int) := by omega
  have b8 : (d : Int) < (n : Int) := by omega
  have v1 : IntKind.i64.wrap ((free : Int) + 1) = (free : Int) + 1 := by rw [IntKind.wrap_i64]; omega
  have v2 : IntKind.i64.wrap ((from_ : Int) + 1) = (from_ : Int) + 1 := by rw [IntKind.wrap_i64]; omega
  clear hm
  have s1 := fun wx => slice_one wx g ps.length cap free (by omega)
  have s2 := fun wx => slice_one wx g ps.length cap from_ (by omega)
  have hcp := run_copy_thing w.drew 3 g (free * 2) (from_ * 2) (cap - free) (cap - from_) _ _ _ _ h0 h1 k0 k1 f0 f1 rfl rfl
  obtain ⟨W1, hW1⟩ : ∃ W1, (w.drew.setCell ⟨g, free * 2, none⟩ (.int .u64 yk)).setCell ⟨g, free * 2 + 1, none⟩ (.int .u32 (d : Int)) = W1 := ⟨_, rfl⟩
  have hM1 : Mem W1 hb wb n (.slice (some ⟨g, 0, none⟩) (ps.set free (yk, (d : Int))).length cap) (ps.set free (yk, (d : Int))) wh := by rw [← hW1]; exact h.drew.put free (yk, (d : Int))
  have HF1 : Hid (Fr hb wb (.slice (some ⟨g, 0, none⟩) ps.length cap) (.slice (some ⟨g, 0, none⟩) ps.length cap) w W1) := by rw [← hW1]; exact ((Fr.refl _ _ _ w).drew.put _).put _
  rw [hW1] at hcp
  have HM1 : Hid (Mem W1 hb wb n (.slice (some ⟨g, 0, none⟩) ps.length cap) (ps.set free (yk, (d : Int))) wh) := by rw [List.length_set] at hM1; exact hM1
  obtain ⟨q0, q1, _, _⟩ := HM1.out.cells
  obtain ⟨_, _, e, _, _, _, _, _, r0, r1, _, _⟩ := hM1.thing (i := free) (t := (yk, (d : Int))) (set_same _ hfl)
  cases e
  obtain ⟨p, hp⟩ : ∃ p, wh[d]? = some p := ⟨wh[d]'(by have := h.len; omega), List.getElem?_eq_getElem _⟩
  obtain ⟨r2, r3⟩ := hM1.where_ hp
  have n1 : hb ≠ wb := h.hw
  have n2 : wb ≠ hb := Ne.symm n1
  have n3 : wb ≠ g := Ne.symm hgw
  have u1 : IntKind.u32.wrap (free : Int) = free := by rw [IntKind.wrap_u32]; omega
  have u2 : IntKind.u32.wrap ((free : Int) + 1) = (free : Int) + 1 := by rw [IntKind.wrap_u32]; omega
  clear h hM1 hW1 hp
  unfold maxLen at hc2
  go_enter Try.func81, Try.ntmps81
  go_wp2_with fail
  go_region_held3 (fun w' => w'.cell? ⟨hb, 0, none⟩ = some (.slice (some ⟨g, 0, none⟩) ps.length cap)) (go_keep) (fail)
  clear s1 s2 hcp c0 c1 k0 k1 h0 h1 f0 f1
  go_wp2_with fail
  go_region_held3 (fun w' => w'.cell? ⟨hb, 0, none⟩ = some (.slice (some ⟨g, 0, none⟩) ps.length cap) ∧ w'.cell? ⟨hb, 1, none⟩ = some (.slice (some ⟨wb, 0, none⟩) n n) ∧ w'.cell? ⟨g, free * 2 + 1, none⟩ = some (.int .u32 (d : Int))) (go_keep) (fail)
  go_wp2
  go_end0
  exact ⟨rfl, HM1.out.drew.mark _ _, HF1.out.drew.mark _⟩
end Go.Proofs.Ytepkogijignmlaa.Hp
