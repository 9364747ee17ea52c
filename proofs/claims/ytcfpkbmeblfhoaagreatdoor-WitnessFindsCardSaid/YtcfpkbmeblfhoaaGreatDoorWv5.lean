/- the law's own graph: what its calls answer; a search on nothing; Bounds. -/
import Derived.Test.YtcfpkbmeblfhoaaGreatDoorQkX
import Derived.Test.YtcfpkbmeblfhoaaGreatDoorQlX
import Derived.Test.YtcfpkbmeblfhoaaGreatDoorQmX
import Derived.BigQuiet
namespace Go.Proofs.YtcfpkbmeblfhoaaGreatDoor.Wt
open Go Go.RowKit Go.Extern

attribute [local go_sem] Oper.semAt_some

set_option maxHeartbeats 1000000 in
theorem wbound_calls (n : Int) (w : World) : Calls Tryz.prog 38 #[.int .i64 n] w fun e w' => e = .returned (.int .i64 (min (max n 0) 1048576)) ∧ w' = w := by
  go_enter Tryz.func38, Tryz.ntmps38
  go_wp2
  go_ret
  exact ⟨rfl, rfl⟩
def optObj (a b c d e : Int) : Obj := .cells #[.int .i64 a, .int .i64 b, .int .i64 c, .int .i64 d, .int .i64 e] 58 (0, 0)
theorem opt_cells {w : World} {X : Nat} {a b c d e : Int} (h : w.heap[X]? = some (optObj a b c d e)) : w.cell? ⟨X, 0, none⟩ = some (.int .i64 a) ∧ w.cell? ⟨X, 1, none⟩ = some (.int .i64 b) ∧ X < w.heap.size := by
  have hl := lt_of_get h
  unfold optObj at h
  refine ⟨?_, ?_, hl⟩ <;> simp [World.cell?, h]
set_option maxRecDepth 100000 in
set_option maxHeartbeats 2000000 in
theorem wbounds_calls (a b c d e : Int) (w : World) : Calls Tryz.prog 17 #[.agg #[.int .i64 a, .int .i64 b, .int .i64 c, .int .i64 d, .int .i64 e]] w fun en w' => en = .returned (.tuple #[.int .i64 (min (max a 0) 1048576), .int .i64 (min (max b 0) 1048576)]) ∧ Below w.heap.size w w' := by
  obtain ⟨W0, hW0⟩ : ∃ W0, w.alloc (optObj a b c d e) = W0 := ⟨_, rfl⟩
  have HW0 : Hid (w.alloc (.cells #[.int .i64 a, .int .i64 b, .int .i64 c, .int .i64 d, .int .i64 e] 58) = W0) := hW0
  have hB0 : Below w.heap.size w W0 := by rw [← hW0]; exact (Below.refl _ w).alloc (Nat.le_refl _) _
  have k1 : W0.heap[w.heap.size]? = some (optObj a b c d e) := by rw [← hW0]; exact heap_new _ _
  obtain ⟨c0, c1, cs⟩ := opt_cells k1
  have HB : Hid (Below w.heap.size w W0) := hB0
  have HA : Hid (∀ wx, Calls Tryz.prog 38 #[.int .i64 a] wx fun e w' => e = .returned (.int .i64 (min (max a 0) 1048576)) ∧ w' = wx) := fun wx => wbound_calls a wx
  have HC : Hid (∀ wx, Calls Tryz.prog 38 #[.int .i64 b] wx fun e w' => e = .returned (.int .i64 (min (max b 0) 1048576)) ∧ w' = wx) := fun wx => wbound_calls b wx
  generalize min (max a 0) 1048576 = a1 at *
  generalize min (max b 0) 1048576 = b1 at *
  clear hW0 hB0 k1
  go_enter Tryz.func17, Tryz.ntmps17
  go_wp2_with fail
  rw [HW0.out]
  go_quiet (first | (go_at_call 38; exact Calls.quiet_of_same (HA.out _)) | (go_at_call 38; exact Calls.quiet_of_same (HC.out _)))
  have HZ : Hid (Below w.heap.size w (W0.drewN nq)) := below_drewN HB.out nq
  go_wp2
  go_ret2
  exact ⟨rfl, HZ.out⟩
set_option maxHeartbeats 1000000 in
theorem wcheck_nil (u : Int) (go : Option Addr) (gl gc : Nat) (w : World) : Calls Tryz.prog 29 #[.pointer none, .int .i64 u, .slice go gl gc] w fun e w' => e = .returned (.iface 60 (.int .i64 19)) ∧ Below w.heap.size w w' := by
  go_enter Tryz.func29, Tryz.ntmps29
  go_wp2
  go_ret
  exact ⟨rfl, Below.refl _ _⟩
set_option maxHeartbeats 1000000 in
theorem wfind_nil (u skip : Int) (go : Option Addr) (gl gc : Nat) (mo hops se : Int) (w : World) : Calls Tryz.prog 7 #[.pointer none, .int .i64 u, .int .i64 skip, .slice go gl gc, .int .u64 mo, .int .i64 hops, .int .i64 se] w fun e w' => e = .returned (.tuple #[.slice none 0 0, .iface 60 (.int .i64 19)]) ∧ Below w.heap.size w w' := by
  have HC : Hid (type_of% (wcheck_nil u go gl gc w)) := wcheck_nil u go gl gc w
  go_enter Tryz.func7, Tryz.ntmps7
  go_wp2_with fail
  refine HC.out.mono ?_
  rintro e w1 ⟨rfl, hb⟩
  have HB : Hid (Below w.heap.size w w1) := hb
  clear hb
  go_wp2
  go_ret2
  exact ⟨rfl, HB.out⟩
theorem ints_one (w : World) (x : Int) : HasInts (w.alloc (.cells #[.int .i64 x] 3)) (.slice (some ⟨w.heap.size, 0, none⟩) 1 1) [x] := by
  have k0 := heap_new w (.cells #[.int .i64 x] 3)
  generalize w.alloc (.cells #[.int .i64 x] 3) = W0 at *
  refine ⟨_, 1, rfl, fun j a hj => ⟨w.heap.size, 0, rfl, lt_of_get k0, ?_⟩⟩
  rcases j with _ | j <;> simp at hj <;> subst hj <;> simp [World.cell?, k0]
/-- what stands while the law walks. -/
structure SQ (w0 w : World) (B pb : Nat) (L : List (Nat × List Int)) (T : List ((Int × List (Int × Int)) × Value)) : Prop where
  o : FourO w B pb
  l : ∀ p ∈ L, U64s w p.1 p.2
  t : ∀ p ∈ T, IsTold w p.1 p.2
  b : Below w0.heap.size w0 w
  h : HasType w
section
variable {w0 w w' : World} {B pb : Nat} {L : List (Nat × List Int)} {T : List ((Int × List (Int × Int)) × Value)}
theorem SQ.keep (h : SQ w0 w B pb L T) (hb : Below w.heap.size w w') : SQ w0 w' B pb L T :=
  ⟨h.o.keep hb, fun p hp => (hb.block _ (lt_of_get (h.l p hp))).trans (h.l p hp), fun p hp => (h.t p hp).keep (Below.keeps hb), h.b.trans (hb.mono h.b.size), h.h.keep hb h.h.pos⟩
theorem SQ.row (h : SQ w0 w B pb L T) {db : Nat} {xs : List Int} (hu : U64s w db xs) : SQ w0 w B pb ((db, xs) :: L) T := ⟨h.o, fun p hp => by
  rcases List.mem_cons.1 hp with rfl | hp
  · exact hu
  · exact h.l p hp, h.t, h.b, h.h⟩
theorem SQ.told (h : SQ w0 w B pb L T) {er : Int × List (Int × Int)} {v : Value} (hu : IsTold w er v) : SQ w0 w B pb L ((er, v) :: T) := ⟨h.o, h.l, fun p hp => by
  rcases List.mem_cons.1 hp with rfl | hp
  · exact hu
  · exact h.t p hp, h.b, h.h⟩
theorem bel_al (w : World) (X : Obj) : Below w.heap.size w (w.alloc X) := (Below.refl _ w).alloc (Nat.le_refl _) _
theorem SQ.find2 (h : SQ w0 w B pb L T) (skip mo hops se x y : Int) (xs : List Int) (he : findErr (aliveB 4 bsQ) ((0 : Nat) : Int) [x, y] = (0, [])) (hx : ansQ skip 0 hops se mo [x, y] = xs) : Calls Tryz.prog 7 #[.pointer (some ⟨pb, 0, none⟩), .int .i64 0, .int .i64 skip, .slice (some ⟨w.heap.size, 0, none⟩) 2 2, .int .u64 mo, .int .i64 hops, .int .i64 se] (w.alloc (.cells #[.int .i64 x, .int .i64 y] 3)) fun e w' => ∃ db, e = .returned (.tuple #[.slice (some ⟨db, 0, none⟩) 2 2, .nilIface]) ∧ SQ w0 w' B pb ((db, xs) :: L) T := by
  have hk := h.keep (bel_al w (.cells #[.int .i64 x, .int .i64 y] 3))
  refine (hk.o.find 0 skip (some ⟨w.heap.size, 0, none⟩) 2 [x, y] (ints_two w x y) (by simp) mo hops se he).mono ?_
  rintro e w' ⟨db, rfl, hu, hb⟩
  rw [hx] at hu
  exact ⟨db, rfl, (hk.keep hb).row hu⟩
theorem SQ.find1 (h : SQ w0 w B pb L T) (skip mo hops se x : Int) (xs : List Int) (he : findErr (aliveB 4 bsQ) ((0 : Nat) : Int) [x] = (0, [])) (hx : ansQ skip 0 hops se mo [x] = xs) : Calls Tryz.prog 7 #[.pointer (some ⟨pb, 0, none⟩), .int .i64 0, .int .i64 skip, .slice (some ⟨w.heap.size, 0, none⟩) 1 1, .int .u64 mo, .int .i64 hops, .int .i64 se] (w.alloc (.cells #[.int .i64 x] 3)) fun e w' => ∃ db, e = .returned (.tuple #[.slice (some ⟨db, 0, none⟩) 1 1, .nilIface]) ∧ SQ w0 w' B pb ((db, xs) :: L) T := by
  have hk := h.keep (bel_al w (.cells #[.int .i64 x] 3))
  refine (hk.o.find 0 skip (some ⟨w.heap.size, 0, none⟩) 1 [x] (ints_one w x) (by simp) mo hops se he).mono ?_
  rintro e w' ⟨db, rfl, hu, hb⟩
  rw [hx] at hu
  exact ⟨db, rfl, (hk.keep hb).row hu⟩
theorem SQ.find0 (h : SQ w0 w B pb L T) (skip mo hops se : Int) : Calls Tryz.prog 7 #[.pointer (some ⟨pb, 0, none⟩), .int .i64 0, .int .i64 skip, .slice none 0 0, .int .u64 mo, .int .i64 hops, .int .i64 se] w fun e w' => ∃ db, e = .returned (.tuple #[.slice (some ⟨db, 0, none⟩) 0 0, .nilIface]) ∧ SQ w0 w' B pb L T := by
  refine (h.o.find 0 skip none 0 [] ⟨none, 0, rfl, fun j a hj => by simp at hj⟩ (by simp) mo hops se (by kernel_rfl)).mono ?_
  rintro e w' ⟨db, rfl, hu, hb⟩
  exact ⟨db, rfl, h.keep hb⟩
theorem SQ.fail (h : SQ w0 w B pb L T) (u skip : Int) (go : Option Addr) (gc : Nat) (gs : List Int) (hg : HasInts w (.slice go gs.length gc) gs) (hl : gs.length ≤ 1000) (mo hops se : Int) (er : Int × List (Int × Int)) (he : findErr (aliveB 4 bsQ) u gs = er) (hne : er ≠ (0, [])) : Calls Tryz.prog 7 #[.pointer (some ⟨pb, 0, none⟩), .int .i64 u, .int .i64 skip, .slice go gs.length gc, .int .u64 mo, .int .i64 hops, .int .i64 se] w fun e w' => ∃ S x, e = .returned (.tuple #[.slice none 0 0, .iface S x]) ∧ SQ w0 w' B pb L ((er, .iface S x) :: T) := by
  obtain ⟨R, h1, h2, h3⟩ := h.o
  refine (find_ov h1 h2 (by omega) u skip go gc gs hg hl mo hops se).mono ?_
  rintro e w' ⟨hb, ⟨h4, _⟩ | ⟨_, S, x, rfl, ht⟩⟩
  · exact absurd (he.symm.trans h4) hne
  · rw [he] at ht
    exact ⟨S, x, rfl, (h.keep hb).told ht⟩
theorem SQ.fail1 (h : SQ w0 w B pb L T) (u skip mo hops se x : Int) (er : Int × List (Int × Int)) (he : findErr (aliveB 4 bsQ) u [x] = er) (hne : er ≠ (0, [])) : Calls Tryz.prog 7 #[.pointer (some ⟨pb, 0, none⟩), .int .i64 u, .int .i64 skip, .slice (some ⟨w.heap.size, 0, none⟩) 1 1, .int .u64 mo, .int .i64 hops, .int .i64 se] (w.alloc (.cells #[.int .i64 x] 3)) fun e w' => ∃ S y, e = .returned (.tuple #[.slice none 0 0, .iface S y]) ∧ SQ w0 w' B pb L ((er, .iface S y) :: T) :=
  (h.keep (bel_al w (.cells #[.int .i64 x] 3))).fail u skip (some ⟨w.heap.size, 0, none⟩) 1 [x] (ints_one w x) (by simp) mo hops se er he hne
theorem SQ.fail2 (h : SQ w0 w B pb L T) (u skip mo hops se x z : Int) (er : Int × List (Int × Int)) (he : findErr (aliveB 4 bsQ) u [x, z] = er) (hne : er ≠ (0, [])) : Calls Tryz.prog 7 #[.pointer (some ⟨pb, 0, none⟩), .int .i64 u, .int .i64 skip, .slice (some ⟨w.heap.size, 0, none⟩) 2 2, .int .u64 mo, .int .i64 hops, .int .i64 se] (w.alloc (.cells #[.int .i64 x, .int .i64 z] 3)) fun e w' => ∃ S y, e = .returned (.tuple #[.slice none 0 0, .iface S y]) ∧ SQ w0 w' B pb L ((er, .iface S y) :: T) :=
  (h.keep (bel_al w (.cells #[.int .i64 x, .int .i64 z] 3))).fail u skip (some ⟨w.heap.size, 0, none⟩) 2 [x, z] (ints_two w x z) (by simp) mo hops se er he hne
theorem SQ.same2 (h : SQ w0 w B pb L T) {db : Nat} {x y : Int} (hm : (db, [x, y]) ∈ L) : Calls Tryz.prog 10 #[.slice (some ⟨db, 0, none⟩) 2 2, .slice (some ⟨w.heap.size, 0, none⟩) 2 2] (w.alloc (.cells #[.int .u64 x, .int .u64 y] 27)) fun e w' => e = .returned (.bool true) ∧ SQ w0 w' B pb L T := by
  refine (sameQ x y (h.l _ hm)).mono ?_
  rintro e w' ⟨rfl, hb⟩
  exact ⟨rfl, h.keep hb⟩
theorem SQ.same1 (h : SQ w0 w B pb L T) {db : Nat} {x : Int} (hm : (db, [x]) ∈ L) : Calls Tryz.prog 10 #[.slice (some ⟨db, 0, none⟩) 1 1, .slice (some ⟨w.heap.size, 0, none⟩) 1 1] (w.alloc (.cells #[.int .u64 x] 27)) fun e w' => e = .returned (.bool true) ∧ SQ w0 w' B pb L T := by
  have hbA := bel_al w (.cells #[.int .u64 x] 27)
  refine (sameRow_yes (some ⟨db, 0, none⟩) (some ⟨w.heap.size, 0, none⟩) 1 1 [x] _ (URow.keep (Or.inr ⟨db, rfl, h.l _ hm⟩) hbA) (Or.inr ⟨w.heap.size, rfl, heap_new _ _⟩) (by simp [maxLen])).mono ?_
  rintro e w' ⟨rfl, hb⟩
  exact ⟨rfl, h.keep (hbA.trans (hb.mono hbA.size))⟩
theorem SQ.seen0 (h : SQ w0 w B pb L T) {c : Int} {v : Value} (hm : ((c, []), v) ∈ T) : Calls Tryz.prog 11 #[v, .agg #[.int .i64 c, .slice none 0 0]] w fun e w' => e = .returned (.bool true) ∧ SQ w0 w' B pb L T := by
  refine (seen_told (c, []) v none 0 w (h.t _ hm) (places_nil w) (by simp) h.h).mono ?_
  rintro e w' ⟨rfl, hb⟩
  exact ⟨rfl, h.keep hb⟩
theorem SQ.seen1 (h : SQ w0 w B pb L T) {c k i : Int} {v : Value} {g : Nat} {S : TypeId} (hm : ((c, [(k, i)]), v) ∈ T) (hg : w.heap[g]? = some (.cells #[.int .i64 k, .int .i64 i] S)) : Calls Tryz.prog 11 #[v, .agg #[.int .i64 c, .slice (some ⟨g, 0, none⟩) 1 1]] w fun e w' => e = .returned (.bool true) ∧ SQ w0 w' B pb L T := by
  refine (seen_told (c, [(k, i)]) v (some ⟨g, 0, none⟩) 1 w (h.t _ hm) (places_one hg) (by simp [maxLen]) h.h).mono ?_
  rintro e w' ⟨rfl, hb⟩
  exact ⟨rfl, h.keep hb⟩
end
end Go.Proofs.YtcfpkbmeblfhoaaGreatDoor.Wt
