/- walk.Back and viaductref09.Back: the list turned about, in memory of its own. -/
import Derived.Test.YtdfjmfgbdnpkbaaDoorWkR
import Derived.Shelf.Slices.Reverse
import Derived.Lib.SliceRun
namespace Go.Proofs
namespace YtdfjmfgbdnpkbaaDoor
open Go.RowKit Go.Extern

attribute [local go_sem] Oper.semAt_some

theorem ints_cells {w : World} {b : Nat} {off : Nat} {n cap : Nat} {xs : List Int} (h : HasInts w (.slice (some ⟨b, off, none⟩) n cap) xs) : ∀ j u, (iv xs)[j]? = some u → w.cell? ((⟨b, off, none⟩ : Addr).add j) = some u := fun j u hj => by
  unfold iv at hj
  rw [List.getElem?_map] at hj
  obtain ⟨a, ha, rfl⟩ := Option.map_eq_some_iff.1 hj
  obtain ⟨b', off', e, _, q⟩ := h.at ha
  cases e
  rw [Addr.add_lit]
  exact q
/-- a list of numbers is appended to a row of one's own. -/
theorem wpList_append_ints {w : World} {ops : Array Oper} {rest : List Oper} {o : Oper} {a : Act} {Q : Exit → Act → World → Prop} (hgd : o.guard = none) (s x : Operand)
    (ho : o.op = .call { callee := .builtin .append, args := #[s, x], argTypes := #[22, 22] })
    (base : Nat) (v : Value) (L : List Int) (hs : a.eval s = v) (hown : w.ownsRow base 3 1 v L.length (iv L))
    (b off ac : Nat) (xs : List Int) (hx : a.eval x = .slice (some ⟨b, off, none⟩) xs.length ac) (hl : HasInts w (.slice (some ⟨b, off, none⟩) xs.length ac) xs)
    (hlen : (L.length + xs.length) * 8 ≤ 140737488355328) (hbase : base ≤ w.heap.size)
    (h : ∀ v' w', w'.ownsRow base 3 1 v' (L ++ xs).length (iv (L ++ xs)) → w.grownBy w' v.ownBlock → wpList Tryd.prog ops Q rest (a.put o.dst v') w') : wpList Tryd.prog ops Q (o :: rest) a w := by
  obtain ⟨i0, hi, hz0, hz1, hz2⟩ : ∃ i, Tryd.prog.info? 3 = some i ∧ i.zero = some (.int .i64 0) ∧ i.size = 1 ∧ i.bytes = 8 := by
    have h := infoJ
    cases hi : Tryd.prog.info? 3 with
    | none => rw [hi] at h; cases h
    | some i => rw [hi] at h; simp at h; exact ⟨i, rfl, h.1, h.2.1, h.2.2⟩
  refine wpList_append_own _ hgd s x 22 ho base 3 i0 _ 1 8 Tryd.underlying22 hi hz0 hz1 hz2 rfl (by decide) v L.length (iv L) hs hown ⟨b, off, none⟩ xs.length ac (iv xs) hx (iv_len xs) (ints_cells hl) (by intro u hu; simp [iv] at hu; obtain ⟨a, _, rfl⟩ := hu; rfl) (by unfold maxLen; omega) (by omega) hbase ?_
  intro v' w' h1 h2 _
  exact h v' w' (by rw [List.length_append, iv_append]; exact h1) h2

theorem eql_nil (a : Addr) (n c : Nat) : ∀ wx, (binOp .eql 22 (.slice (some a) n c) (.slice none 0 0)).run Tryd.prog wx = .ok (.bool false) wx := fun wx => Lib.run_eql_slice_nil wx 22 3 (some a) n c 0 0 Tryd.underlying22
theorem eql_nil0 (n c : Nat) : ∀ wx, (binOp .eql 22 (.slice none n c) (.slice none 0 0)).run Tryd.prog wx = .ok (.bool true) wx := fun wx => Lib.run_eql_slice_nil wx 22 3 none n c 0 0 Tryd.underlying22
theorem own_empty (w : World) : (w.alloc (.cells #[] 3)).ownsRow w.heap.size 3 1 (.slice (some ⟨w.heap.size, 0, none⟩) 0 0) 0 (iv []) := ⟨rfl, .inr ⟨w.heap.size, 0, #[], rfl, Nat.le_refl _, heap_new _ _, Nat.le_refl _, Nat.zero_le _, rfl, rfl⟩⟩

set_option maxRecDepth 100000 in
set_option maxHeartbeats 1000000 in
theorem clone_calls (b off lc : Nat) (xs : List Int) (w : World) (hl : HasInts w (.slice (some ⟨b, off, none⟩) xs.length lc) xs) (hm : xs.length * 8 ≤ 140737488351232) :
    Calls Tryd.prog 38 #[.slice (some ⟨b, off, none⟩) xs.length lc] w fun e w' => ∃ so sc, e = .returned (.slice so xs.length sc) ∧ w'.ownsRow w.heap.size 3 1 (.slice so xs.length sc) xs.length (iv xs) ∧ Below w.heap.size w w' := by
  have HL : Hid (HasInts w (.slice (some ⟨b, off, none⟩) xs.length lc) xs) := hl
  have hnil := eql_nil ⟨b, off, none⟩ xs.length lc
  have HE : Hid (type_of% (own_empty w)) := own_empty w
  have HB : Hid (Below w.heap.size w (w.alloc (.cells #[] 3))) := (Below.refl _ w).alloc (Nat.le_refl _) _
  clear hl
  go_enter Tryd.func38, Tryd.ntmps38
  go_wp2_with (at_builtin; refine wpList_append_ints rfl _ _ rfl w.heap.size (.slice (some ⟨w.heap.size, 0, none⟩) 0 0) [] rfl HE.out b off lc xs rfl (HL.out.keep HB.out) (by simp; omega) HB.out.size ?_; intro v' w2 hown2 hgrow2; have HR2 : Hid (w2.ownsRow w.heap.size 3 1 v' xs.length (iv xs)) := hown2; have HB2 : Hid (Below w.heap.size w w2) := below_g HB.out hgrow2 (fun k e => by cases e; exact Nat.le_refl _); clear hown2 hgrow2; obtain ⟨vo, vc, hv2⟩ := iown_slice HR2.out; subst hv2)
  go_ret
  exact ⟨vo, vc, rfl, HR2.out, HB2.out⟩
set_option maxRecDepth 100000 in
theorem clone_nil (lc : Nat) (w : World) : Calls Tryd.prog 38 #[.slice none 0 lc] w fun e w' => e = .returned (.slice none 0 0) ∧ w' = w := by
  have hnil := eql_nil0 0 lc
  go_enter Tryd.func38, Tryd.ntmps38
  go_wp2
  go_ret
  exact ⟨rfl, rfl⟩
/-- Clone, whatever the list. -/
theorem clone_any (lo : Option Addr) (lc : Nat) (xs : List Int) (w : World) (hl : HasInts w (.slice lo xs.length lc) xs) (hs : ∀ a, lo = some a → a.spot = none) (hm : xs.length * 8 ≤ 140737488351232) :
    Calls Tryd.prog 38 #[.slice lo xs.length lc] w fun e w' => ∃ so sc, e = .returned (.slice so xs.length sc) ∧ w'.ownsRow w.heap.size 3 1 (.slice so xs.length sc) xs.length (iv xs) ∧ Below w.heap.size w w' := by
  cases lo with
  | none =>
    have hx : xs = [] := by
      cases xs with
      | nil => rfl
      | cons q r => obtain ⟨b, off, e, _⟩ := hl.at (k := 0) (a := q) rfl; cases e
    subst hx
    refine (clone_nil lc w).mono ?_
    rintro e w' ⟨rfl, rfl⟩
    exact ⟨none, 0, rfl, World.ownsRow_nil _ _ _ _, Below.refl _ _⟩
  | some a =>
    obtain ⟨b, off, sp⟩ := a
    obtain rfl : sp = none := hs _ rfl
    exact clone_calls b off lc xs w hl hm
end YtdfjmfgbdnpkbaaDoor
open Go.Shelf in
def Tryd.rv_ren : Go.Shelf.Ren := ⟨fun | 112 => 39 | n => n, fun | 28 => 22 | n => n, fun | n => n⟩
theorem Tryd.rv : Go.Proofs.Lays.n112 Tryd.prog Tryd.rv_ren := {
  mixed := by kernel_rfl
  f112 := Tryd.func39.trans (congrArg some (by kernel_rfl))
  t0 := Tryd.underlying0
  a0 := Tryd.isAgg0
  z0 := Tryd.sizeOf0
  v0 := Tryd.zeroValue0
  t3 := Tryd.underlying3
  a3 := Tryd.isAgg3
  z3 := Tryd.sizeOf3
  v3 := Tryd.zeroValue3
  t4 := Tryd.underlying4
  a4 := Tryd.isAgg4
  z4 := Tryd.sizeOf4
  v4 := Tryd.zeroValue4
  t28 := Tryd.underlying22
  a28 := Tryd.isAgg22
  z28 := Tryd.sizeOf22
  v28 := Tryd.zeroValue22 }
namespace YtdfjmfgbdnpkbaaDoor
open Go.RowKit Go.Extern Go.Sort

attribute [local go_sem] Oper.semAt_some

/-- Reverse, at a row of one's own: it is turned about. -/
theorem reverse_own (B g cap : Nat) (zs : List Int) (w : World) (h : w.ownsRow B 3 1 (.slice (some ⟨g, 0, none⟩) zs.length cap) zs.length (iv zs)) (hm : zs.length ≤ 9223372036854775807) :
    Calls Tryd.prog 39 #[.slice (some ⟨g, 0, none⟩) zs.length cap] w fun e w' => e = .returned (.tuple #[]) ∧ w'.ownsRow B 3 1 (.slice (some ⟨g, 0, none⟩) zs.length cap) zs.length (iv zs.reverse) ∧ w.grownBy w' (some g) := by
  have hH : Holds (Value.int .i64) w g 0 zs.toArray := fun j hj => by
    have hj' : j < zs.length := by simpa using hj
    refine ⟨?_, by rw [Nat.zero_add]; exact h.frozenAt j⟩
    rw [Nat.zero_add, h.cellAt j (by omega)]
    simp [iv, hj']
  have hc := Any.slices_Reverse_int Tryd.rv g 0 cap zs w hH hm
  refine hc.mono ?_
  rintro e w' ⟨he, n, rfl⟩
  refine ⟨he, ?_, ?_⟩
  · rcases h.2 with ⟨e, _⟩ | ⟨g', cap', cur, e, hb, hh, hle, hmx, hsz, ht⟩
    · cases e
    · cases e
      refine ⟨by simp [iv], .inr ⟨g, cap, putCells (Value.int .i64) 0 zs.reverse.toArray cur, rfl, hb, ?_, hle, hmx, by simp [putCells]; simpa using hsz, ?_⟩⟩
      · simp only [putRow, mapBlock, Sort.ahead, Array.getElem?_modify]
        rw [if_pos trivial, hh]
        rfl
      · apply List.ext_getElem?
        intro j
        rw [List.getElem?_take]
        by_cases hj : j < zs.length * 1
        · rw [if_pos hj]
          have hj' : j < zs.length := by omega
          have hjc : j < cur.size := by omega
          simp [putCells, iv, hjc, hj']
        · rw [if_neg hj, List.getElem?_eq_none (by simp [iv]; omega)]
  · refine ⟨rfl, rfl, rfl, by simp [putRow, mapBlock, Sort.ahead], fun k hk hne => ?_⟩
    simp only [putRow, mapBlock, Sort.ahead, Array.getElem?_modify]
    rw [if_neg (fun e => hne (by rw [e]))]
end YtdfjmfgbdnpkbaaDoor
end Go.Proofs
