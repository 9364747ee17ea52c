/- walk.Back and viaductref09.Back: the list turned about, in memory of its own. walk.Back and viaductref09.Back: the list turned about, in memory of its own. slices.Grow of no list and slices.Concat at numbers; walk.last. -/
import Derived.Test.YtefcmpdnlbpjpaaWkS
import Derived.Shelf.Slices.Reverse
import Derived.Lib.SliceRun
import Derived.Lib.AppendZeros
import Derived.Laws.AppendOwnNone
namespace Go.Proofs
namespace Ytefcmpdnlbpjpaa
open Go.RowKit Go.Extern

attribute [local go_sem] Oper.semAt_some

theorem ints_cells {w : World} {b : Nat} {off : Nat} {n cap : Nat} {xs : List Int} (h : HasInts w (.slice (some ⟨b, off, none⟩) n cap) xs) : ∀ j u, (iv xs)[j]? = some u → w.cell? ((⟨b, off, none⟩ : Addr).add j) = some u := fun j u hj => by
  unfold iv at hj
  rw [List.getElem?_map] at hj
  obtain ⟨a, ha, rfl⟩ := Option.map_eq_some_iff.1 hj
  obtain ⟨b', off', e, _, q⟩ := h.at ha
  cases e
  rw [Addr.add_lit]
  exact q
/-- a list of numbers is appended to a row of one's own. -/
theorem wpList_append_ints {w : World} {ops : Array Oper} {rest : List Oper} {o : Oper} {a : Act} {Q : Exit → Act → World → Prop} (hgd : o.guard = none) (s x : Operand)
    (ho : o.op = .call { callee := .builtin .append, args := #[s, x], argTypes := #[25, 25] })
    (base : Nat) (v : Value) (L : List Int) (hs : a.eval s = v) (hown : w.ownsRow base 3 1 v L.length (iv L))
    (b off ac : Nat) (xs : List Int) (hx : a.eval x = .slice (some ⟨b, off, none⟩) xs.length ac) (hl : HasInts w (.slice (some ⟨b, off, none⟩) xs.length ac) xs)
    (hlen : (L.length + xs.length) * 8 ≤ 140737488355328) (hbase : base ≤ w.heap.size)
    (h : ∀ v' w', w'.ownsRow base 3 1 v' (L ++ xs).length (iv (L ++ xs)) → w.grownBy w' v.ownBlock → wpList Try.prog ops Q rest (a.put o.dst v') w') : wpList Try.prog ops Q (o :: rest) a w := by
  obtain ⟨i0, hi, hz0, hz1, hz2⟩ : ∃ i, Try.prog.info? 3 = some i ∧ i.zero = some (.int .i64 0) ∧ i.size = 1 ∧ i.bytes = 8 := by
    have h := infoJ
    cases hi : Try.prog.info? 3 with
    | none => rw [hi] at h; cases h
    | some i => rw [hi] at h; simp at h; exact ⟨i, rfl, h.1, h.2.1, h.2.2⟩
  refine wpList_append_own _ hgd s x 25 ho base 3 i0 _ 1 8 Try.underlying25 hi hz0 hz1 hz2 rfl (by decide) v L.length (iv L) hs hown ⟨b, off, none⟩ xs.length ac (iv xs) hx (iv_len xs) (ints_cells hl) (by intro u hu; simp [iv] at hu; obtain ⟨a, _, rfl⟩ := hu; rfl) (by unfold maxLen; omega) (by omega) hbase ?_
  intro v' w' h1 h2 _
  exact h v' w' (by rw [List.length_append, iv_append]; exact h1) h2

theorem eql_nil (a : Addr) (n c : Nat) : ∀ wx, (binOp .eql 25 (.slice (some a) n c) (.slice none 0 0)).run Try.prog wx = .ok (.bool false) wx := fun wx => Lib.run_eql_slice_nil wx 25 3 (some a) n c 0 0 Try.underlying25
theorem eql_nil0 (n c : Nat) : ∀ wx, (binOp .eql 25 (.slice none n c) (.slice none 0 0)).run Try.prog wx = .ok (.bool true) wx := fun wx => Lib.run_eql_slice_nil wx 25 3 none n c 0 0 Try.underlying25
theorem own_empty (w : World) : (w.alloc (.cells #[] 3)).ownsRow w.heap.size 3 1 (.slice (some ⟨w.heap.size, 0, none⟩) 0 0) 0 (iv []) := ⟨rfl, .inr ⟨w.heap.size, 0, #[], rfl, Nat.le_refl _, heap_new _ _, Nat.le_refl _, Nat.zero_le _, rfl, rfl⟩⟩

end Ytefcmpdnlbpjpaa
open Go.Shelf in
def Try.rv_ren : Go.Shelf.Ren := ⟨fun | 112 => 55 | n => n, fun | 28 => 25 | n => n, fun | n => n⟩
theorem Try.rv : Go.Proofs.Lays.n112 Try.prog Try.rv_ren := {
  mixed := by kernel_rfl
  f112 := Try.func55.trans (congrArg some (by kernel_rfl))
  t0 := Try.underlying0
  a0 := Try.isAgg0
  z0 := Try.sizeOf0
  v0 := Try.zeroValue0
  t3 := Try.underlying3
  a3 := Try.isAgg3
  z3 := Try.sizeOf3
  v3 := Try.zeroValue3
  t4 := Try.underlying4
  a4 := Try.isAgg4
  z4 := Try.sizeOf4
  v4 := Try.zeroValue4
  t28 := Try.underlying25
  a28 := Try.isAgg25
  z28 := Try.sizeOf25
  v28 := Try.zeroValue25 }
namespace Ytefcmpdnlbpjpaa
open Go.RowKit Go.Extern Go.Sort

attribute [local go_sem] Oper.semAt_some

/-- Reverse, at a row of one's own: it is turned about. -/
theorem reverse_own (B g cap : Nat) (zs : List Int) (w : World) (h : w.ownsRow B 3 1 (.slice (some ⟨g, 0, none⟩) zs.length cap) zs.length (iv zs)) (hm : zs.length ≤ 9223372036854775807) :
    Calls Try.prog 55 #[.slice (some ⟨g, 0, none⟩) zs.length cap] w fun e w' => e = .returned (.tuple #[]) ∧ w'.ownsRow B 3 1 (.slice (some ⟨g, 0, none⟩) zs.length cap) zs.length (iv zs.reverse) ∧ w.grownBy w' (some g) := by
  have hH : Holds (Value.int .i64) w g 0 zs.toArray := fun j hj => by
    have hj' : j < zs.length := by simpa using hj
    refine ⟨?_, by rw [Nat.zero_add]; exact h.frozenAt j⟩
    rw [Nat.zero_add, h.cellAt j (by omega)]
    simp [iv, hj']
  have hc := Any.slices_Reverse_int Try.rv g 0 cap zs w hH hm
  refine hc.mono ?_
  rintro e w' ⟨he, n, rfl⟩
  refine ⟨he, ?_, ?_⟩
  · rcases h.2 with ⟨e, _⟩ | ⟨g', cap', cur, e, hb, hh, hle, hmx, hsz, ht⟩
    · cases e
    · cases e
      refine ⟨by simp [iv], .inr ⟨g, cap, putCells (Value.int .i64) 0 zs.reverse.toArray cur, rfl, hb, ?_, hle, hmx, by simp [putCells]; simpa using hsz, ?_⟩⟩
      · simp only [putRow, mapBlock, Sort.ahead, Array.getElem?_modify]
        rw [if_pos trivial, hh]
        rfl
      · apply List.ext_getElem?
        intro j
        rw [List.getElem?_take]
        by_cases hj : j < zs.length * 1
        · rw [if_pos hj]
          have hj' : j < zs.length := by omega
          have hjc : j < cur.size := by omega
          simp [putCells, iv, hjc, hj']
        · rw [if_neg hj, List.getElem?_eq_none (by simp [iv]; omega)]
  · refine ⟨rfl, rfl, rfl, by simp [putRow, mapBlock, Sort.ahead], fun k hk hne => ?_⟩
    simp only [putRow, mapBlock, Sort.ahead, Array.getElem?_modify]
    rw [if_neg (fun e => hne (by rw [e]))]
end Ytefcmpdnlbpjpaa
end Go.Proofs

namespace Go.Proofs.Ytefcmpdnlbpjpaa
open Go.RowKit Go.Extern

attribute [local go_sem] Oper.semAt_some

/-- what is answered: a list in memory of its own. -/
def LA (w : World) (ys : List Int) (e : Ending) (w' : World) : Prop := ∃ so sc, e = .returned (.slice so ys.length sc) ∧ w'.ownsRow w.heap.size 3 1 (.slice so ys.length sc) ys.length (iv ys) ∧ Below w.heap.size w w'
theorem reverse_any (B sc : Nat) (so : Option Addr) (zs : List Int) (w : World) (h : w.ownsRow B 3 1 (.slice so zs.length sc) zs.length (iv zs)) (hm : zs.length ≤ 9223372036854775807) (hB : w.heap.size ≤ w.heap.size) :
    Calls Try.prog 55 #[.slice so zs.length sc] w fun e w' => e = .returned (.tuple #[]) ∧ w'.ownsRow B 3 1 (.slice so zs.length sc) zs.length (iv zs.reverse) ∧ w.grownBy w' (Value.slice so zs.length sc).ownBlock := by
  rcases h.2 with ⟨e, h0⟩ | ⟨g, cap, cur, e, _⟩
  · injection e with e1 e2 e3
    subst e1
    subst e3
    have hz : zs = [] := List.eq_nil_of_length_eq_zero h0
    subst hz
    refine (Any.slices_Reverse_int_empty Try.rv none 0 w).mono ?_
    rintro e w' ⟨he, rfl⟩
    exact ⟨he, World.ownsRow_nil _ _ _ _, ⟨rfl, rfl, rfl, Nat.le_refl _, fun _ _ _ => rfl⟩⟩
  · injection e with e1 e2 e3
    subst e1
    subst e3
    exact reverse_own B g sc zs w h hm

end Go.Proofs.Ytefcmpdnlbpjpaa

namespace Go.Proofs.Ytefcmpdnlbpjpaa
open Go.RowKit Go.Extern Go.Sort

attribute [local go_sem] Oper.semAt_some

set_option maxRecDepth 100000 in
set_option maxHeartbeats 2000000 in
theorem growI_calls (n : Nat) (w : World) (hn : n * 8 ≤ 140737488351232) :
    Calls Try.prog 56 #[.slice none 0 0, .int .i64 (n : Int)] w fun e w' => ∃ v, e = .returned v ∧ w'.ownsRow w.heap.size 3 1 v 0 [] ∧ Below w.heap.size w w' := by
  obtain ⟨i0, hi, hz0, hz1, hz2⟩ : ∃ i, Try.prog.info? 3 = some i ∧ i.zero = some (.int .i64 0) ∧ i.size = 1 ∧ i.bytes = 8 := by
    have h := infoJ
    cases hi : Try.prog.info? 3 with
    | none => rw [hi] at h; cases h
    | some i => rw [hi] at h; simp at h; exact ⟨i, rfl, h.1, h.2.1, h.2.2⟩
  have hw : IntKind.i64.wrap ((n : Int) - (0 - 0)) = n := by rw [IntKind.wrap_i64] <;> omega
  have hw2 : IntKind.i64.wrap (n : Int) = n := by rw [IntKind.wrap_i64] <;> omega
  by_cases h0 : n = 0
  · subst h0
    go_enter Try.func56, Try.ntmps56
    go_wp2
    go_ret
    exact ⟨_, rfl, World.ownsRow_nil _ _ _ _, Below.refl _ _⟩
  · have hrun := Lib.run_append_nil_zeros (P := Try.prog) w 25 3 25 3 i0 (.int .i64 0) .i64 .i64 Try.underlying25 Try.underlying3 hi hz0 n (by omega) (by omega) (by omega) (by rw [hz2]; omega)
    have hcap := grownCap_ge w n 0 3
    have hcm := grownCap_le_maxLen w n 0 3 (by unfold maxLen; omega)
    have HN : Hid ((w.drew.alloc (.cells (Builtin.zeroCells (Value.int .i64 0).cells n ++ Builtin.zeroCells (Value.int .i64 0).cells (grownCap w n 0 3 - n)) 3)).heap[w.heap.size]? = some (.cells (Builtin.zeroCells (Value.int .i64 0).cells n ++ Builtin.zeroCells (Value.int .i64 0).cells (grownCap w n 0 3 - n)) 3)) := heap_new w.drew _
    have HZ : Hid ((Builtin.zeroCells (Value.int .i64 0).cells n ++ Builtin.zeroCells (Value.int .i64 0).cells (grownCap w n 0 3 - n)).size = grownCap w n 0 3 * 1) := by
      show _ = _
      rw [Array.size_append, size_zeroCells, size_zeroCells]
      show n * 1 + (grownCap w n 0 3 - n) * 1 = _
      omega
    have HB : Hid (Below w.heap.size w (w.drew.alloc (.cells (Builtin.zeroCells (Value.int .i64 0).cells n ++ Builtin.zeroCells (Value.int .i64 0).cells (grownCap w n 0 3 - n)) 3))) := (Below.refl _ w).drew.alloc (Nat.le_refl _) _
    generalize Builtin.zeroCells (Value.int .i64 0).cells n ++ Builtin.zeroCells (Value.int .i64 0).cells (grownCap w n 0 3 - n) = Z at *
    generalize grownCap w n 0 3 = C at *
    have HR : Hid ((Builtin.append_ #[25, 3] 25 #[.slice none 0 0, .int .i64 (n : Int)]).run Try.prog w = .ok (.slice (some ⟨w.heap.size, 0, none⟩) n C) (w.drew.alloc (.cells Z 3))) := hrun
    clear hrun
    have hpos : (0 : Int) < n := by omega
    go_enter Try.func56, Try.ntmps56
    go_wp2_with (at_builtin; refine Lib.wpList_append_run _ rfl _ _ _ _ rfl _ _ rfl rfl _ _ HR.out ?_)
    go_wp2
    go_ret
    exact ⟨_, rfl, ⟨rfl, Or.inr ⟨w.heap.size, C, Z, rfl, Nat.le_refl _, HN.out, Nat.zero_le _, hcm, HZ.out, rfl⟩⟩, HB.out⟩

set_option maxRecDepth 100000 in
set_option maxHeartbeats 4000000 in
theorem concatI_calls (b : Nat) (ab af bb bf ac bc : Nat) (xs ys : List Int) (w : World) (h0 : w.cell? ⟨b, 0, none⟩ = some (.slice (some ⟨ab, af, none⟩) xs.length ac)) (h1 : w.cell? ⟨b, 1, none⟩ = some (.slice (some ⟨bb, bf, none⟩) ys.length bc))
    (hx : HasInts w (.slice (some ⟨ab, af, none⟩) xs.length ac) xs) (hy : HasInts w (.slice (some ⟨bb, bf, none⟩) ys.length bc) ys) (hm : (xs.length + ys.length) * 8 ≤ 140737488351232) :
    Calls Try.prog 30 #[.slice (some ⟨b, 0, none⟩) 2 2] w (LA w (xs ++ ys)) := by
  have hlb : b < w.heap.size := by
    rcases Nat.lt_or_ge b w.heap.size with h | h
    · exact h
    · simp [World.cell?, Array.getElem?_eq_none h] at h0
  have HG : Hid (Calls Try.prog 56 #[.slice none 0 0, .int .i64 ((xs.length + ys.length : Nat) : Int)] w fun e w' => ∃ v, e = .returned v ∧ w'.ownsRow w.heap.size 3 1 v 0 [] ∧ Below w.heap.size w w') := growI_calls _ w (by omega)
  have HX : Hid (HasInts w (.slice (some ⟨ab, af, none⟩) xs.length ac) xs) := hx
  have HY : Hid (HasInts w (.slice (some ⟨bb, bf, none⟩) ys.length bc) ys) := hy
  have e1 : ((xs.length + ys.length : Nat) : Int) = (xs.length : Int) + (ys.length : Int) := by omega
  rw [e1] at HG
  have HH : Hid (w.cell? ⟨b, 0, none⟩ = some (.slice (some ⟨ab, af, none⟩) xs.length ac) ∧ w.cell? ⟨b, 1, none⟩ = some (.slice (some ⟨bb, bf, none⟩) ys.length bc)) := ⟨h0, h1⟩
  clear hx hy
  go_enter Try.func30, Try.ntmps30
  go_wp2_with fail
  refine wp_loop_rounds 3 ?_
  rw [rounds_succ]
  go_wp2
  rw [rounds_succ]
  go_wp2
  rw [rounds_succ]
  go_wp2_with fail
  refine HG.out.mono ?_
  rintro e w1 ⟨v, rfl, hown, hb⟩
  obtain ⟨so, sc, hv⟩ := iown_slice hown
  subst hv
  have HO : Hid (w1.ownsRow w.heap.size 3 1 (.slice so 0 sc) 0 []) := hown
  have HB1 : Hid (Below w.heap.size w w1) := hb
  have g0 := (hb.cell (p := ⟨b, 0, none⟩) hlb).trans HH.out.1
  have g1 := (hb.cell (p := ⟨b, 1, none⟩) hlb).trans HH.out.2
  clear hown hb h0 h1
  go_wp2_with fail
  refine wp_loop_rounds 3 ?_
  rw [rounds_succ]
  go_wp2_with (at_builtin; refine wpList_append_ints rfl _ _ rfl w.heap.size (.slice so 0 sc) [] rfl HO.out ab af ac xs rfl (HX.out.keep HB1.out) (by simp; omega) HB1.out.size ?_; intro v' w2 hown2 hgr2; obtain ⟨so2, sc2, hv2⟩ := iown_slice hown2; subst hv2; have HO2 : Hid (w2.ownsRow w.heap.size 3 1 (.slice so2 ([] ++ xs).length sc2) ([] ++ xs).length (iv ([] ++ xs))) := hown2; have HB2 : Hid (Below w.heap.size w w2) := below_g HB1.out hgr2 (fun k e => (HO.out.lt k e.symm).1); have k0 : w2.cell? ⟨b, 0, none⟩ = some (.slice (some ⟨ab, af, none⟩) xs.length ac) := (HB2.out.cell (p := ⟨b, 0, none⟩) hlb).trans HH.out.1; have k1 : w2.cell? ⟨b, 1, none⟩ = some (.slice (some ⟨bb, bf, none⟩) ys.length bc) := (HB2.out.cell (p := ⟨b, 1, none⟩) hlb).trans HH.out.2; clear hown2 hgr2 g0 g1)
  rw [rounds_succ]
  go_wp2_with (at_builtin; refine wpList_append_ints rfl _ _ rfl w.heap.size (.slice so2 ([] ++ xs).length sc2) ([] ++ xs) rfl HO2.out bb bf bc ys rfl (HY.out.keep HB2.out) (by simp; omega) HB2.out.size ?_; intro v' w3 hown3 hgr3; obtain ⟨so3, sc3, hv3⟩ := iown_slice hown3; subst hv3; have HO3 : Hid (w3.ownsRow w.heap.size 3 1 (.slice so3 (([] ++ xs) ++ ys).length sc3) (([] ++ xs) ++ ys).length (iv (([] ++ xs) ++ ys))) := hown3; have HB3 : Hid (Below w.heap.size w w3) := below_g HB2.out hgr3 (fun k e => (HO2.out.lt k e.symm).1); have q0 : w3.cell? ⟨b, 0, none⟩ = some (.slice (some ⟨ab, af, none⟩) xs.length ac) := (HB3.out.cell (p := ⟨b, 0, none⟩) hlb).trans HH.out.1; have q1 : w3.cell? ⟨b, 1, none⟩ = some (.slice (some ⟨bb, bf, none⟩) ys.length bc) := (HB3.out.cell (p := ⟨b, 1, none⟩) hlb).trans HH.out.2; clear hown3 hgr3 k0 k1)
  rw [rounds_succ]
  go_wp2
  go_ret
  exact ⟨so3, sc3, congrArg (fun n : Nat => Ending.returned (.slice so3 n sc3)) List.length_append.symm, HO3.out, HB3.out⟩

set_option maxRecDepth 100000 in
theorem last_calls (b off m cap : Nat) (l : Int) (w : World) (h : w.cell? ⟨b, off + m, none⟩ = some (.int .i64 l)) (hm : m * 8 ≤ 140737488351232) :
    Calls Try.prog 29 #[.slice (some ⟨b, off, none⟩) (m + 1) cap] w fun e w' => e = .returned (.int .i64 l) ∧ w' = w := by
  have hw : IntKind.i64.wrap ((m : Int) + 1 - 1) = (m : Int) := by rw [IntKind.wrap_i64] <;> omega
  have m0 : (0 : Int) ≤ (m : Int) := by omega
  have m1 : (m : Int) < (m : Int) + 1 := by omega
  go_enter Try.func29, Try.ntmps29
  go_wp2
  go_ret
  exact ⟨rfl, rfl⟩
end Go.Proofs.Ytefcmpdnlbpjpaa
