/- csr's small methods: how many nodes, is it one, is an arc right: whatever the arrays. -/
import Derived.Test.YtefcmpdnlbpjpaaInts
import Derived.Deep.RegionWith
import Derived.Deep.RegionHeld3
namespace Go.Proofs.Ytefcmpdnlbpjpaa
open Go.RowKit Go.Extern

attribute [local go_sem] Oper.semAt_some

/-- the box of a Csr in memory. -/
theorem box3 {w : World} {b : Nat} {c0 c1 c2 : Value} {T : TypeId} (h : w.heap[b]? = some (.cells #[c0, c1, c2] T)) :
    w.cell? ⟨b, 0, none⟩ = some c0 ∧ w.cell? ⟨b, 1, none⟩ = some c1 ∧ w.cell? ⟨b, 2, none⟩ = some c2 := by
  simp [World.cell?, h]

section
variable (fo to wo : Option Addr) (n fc tl tc wl wc : Nat)

set_option maxHeartbeats 1000000 in
theorem nodes_calls (hn : n ≤ 4611686018427387904) (w : World) : Calls Try.prog 62 #[.agg #[.slice fo (n + 1) fc, .slice to tl tc, .slice wo wl wc]] w fun e w' => e = .returned (.int .i64 n) ∧ Below w.heap.size w w' := by
  have HB : Hid (Below w.heap.size w (w.alloc (.cells #[.slice fo (n + 1) fc, .slice to tl tc, .slice wo wl wc] 27))) := (Below.refl _ w).alloc (Nat.le_refl _) _
  have hw : IntKind.i64.wrap (((n + 1 : Nat) : Int) - 1) = (n : Int) := by rw [IntKind.wrap_i64] <;> omega
  go_enter Try.func62, Try.ntmps62
  go_wp2
  go_ret
  exact ⟨rfl, HB.out⟩

set_option maxHeartbeats 1000000 in
theorem isNode_calls (hn : n ≤ 4611686018427387904) (v : Int) (w : World) : Calls Try.prog 82 #[.agg #[.slice fo (n + 1) fc, .slice to tl tc, .slice wo wl wc], .int .i64 v] w fun e w' => e = .returned (.bool (decide (0 ≤ v ∧ v < (n : Int)))) ∧ Below w.heap.size w w' := by
  have HB : Hid (Below w.heap.size w (w.alloc (.cells #[.slice fo (n + 1) fc, .slice to tl tc, .slice wo wl wc] 27))) := (Below.refl _ w).alloc (Nat.le_refl _) _
  have HNC : Hid (∀ wx, Below w.heap.size w wx → Calls Try.prog 62 #[.agg #[.slice fo (n + 1) fc, .slice to tl tc, .slice wo wl wc]] wx fun e w' => e = .returned (.int .i64 n) ∧ Below w.heap.size w w') := fun wx h => (nodes_calls fo to wo n fc tl tc wl wc hn wx).mono fun e w' ⟨he, hb⟩ => ⟨he, h.trans (hb.mono h.size)⟩
  by_cases h0 : 0 ≤ v
  · rw [show decide (0 ≤ v ∧ v < (n : Int)) = decide (v < (n : Int)) by simp [h0]]
    go_enter Try.func82, Try.ntmps82
    go_wp2_with (go_at_call 62; refine (HNC.out _ HB.out).mono ?_; rintro e w' ⟨rfl, hb⟩)
    go_ret
    exact ⟨rfl, hb⟩
  · rw [decide_eq_false (fun h => h0 h.1)]
    go_enter Try.func82, Try.ntmps82
    go_wp2
    go_ret
    exact ⟨rfl, HB.out⟩
end

theorem HasInts.cells {wx : World} {ao : Option Addr} {l cap : Nat} {xs : List Int} (h : HasInts wx (.slice ao l cap) xs) (h0 : 0 < l) : ∃ b off, ao = some ⟨b, off, none⟩ ∧ b < wx.heap.size ∧ ∀ (k : Nat) (a : Int), xs[k]? = some a → wx.cell? ⟨b, off + k, none⟩ = some (.int .i64 a) := by
  obtain ⟨ao', cap', e, hc⟩ := h
  injection e with e1 e2 e3
  subst e1
  obtain ⟨a, ha⟩ : ∃ a, xs[0]? = some a := ⟨xs[0], List.getElem?_eq_getElem (by omega)⟩
  obtain ⟨b, off, rfl, hl, _⟩ := hc 0 a ha
  refine ⟨b, off, rfl, hl, fun k a hk => ?_⟩
  obtain ⟨b', off', e', _, h1⟩ := hc k a hk
  injection e' with e'
  injection e' with i1 i2
  subst i1 i2
  exact h1

set_option maxRecDepth 100000 in
set_option maxHeartbeats 4000000 in
theorem lengths_good (fb fof : Nat) (to wo : Option Addr) (n fc m tc wc : Nat) (F : List Int) (w : World) (hF : HasInts w (.slice (some ⟨fb, fof, none⟩) (n + 1) fc) F) (h0 : F[0]? = some 0) (hn : F[n]? = some (m : Int)) (hN : n ≤ 65536) (hM : m ≤ 262144) :
    Calls Try.prog 61 #[.agg #[.slice (some ⟨fb, fof, none⟩) (n + 1) fc, .slice to m tc, .slice wo m wc]] w fun e w' => e = .returned .nilIface ∧ Below w.heap.size w w' := by
  have HB : Hid (Below w.heap.size w (w.alloc (.cells #[.slice (some ⟨fb, fof, none⟩) (n + 1) fc, .slice to m tc, .slice wo m wc] 27))) := (Below.refl _ w).alloc (Nat.le_refl _) _
  have HBX : Hid ((w.alloc (.cells #[.slice (some ⟨fb, fof, none⟩) (n + 1) fc, .slice to m tc, .slice wo m wc] 27)).heap[w.heap.size]? = some (.cells #[.slice (some ⟨fb, fof, none⟩) (n + 1) fc, .slice to m tc, .slice wo m wc] 27)) := heap_new _ _
  have HK : Hid (∀ wx, Below (w.heap.size + 1) (w.alloc (.cells #[.slice (some ⟨fb, fof, none⟩) (n + 1) fc, .slice to m tc, .slice wo m wc] 27)) wx → wx.cell? ⟨fb, fof, none⟩ = some (.int .i64 0) ∧ wx.cell? ⟨fb, fof + n, none⟩ = some (.int .i64 m) ∧ wx.cell? ⟨w.heap.size, 0, none⟩ = some (.slice (some ⟨fb, fof, none⟩) (n + 1) fc) ∧ wx.cell? ⟨w.heap.size, 1, none⟩ = some (.slice to m tc) ∧ wx.cell? ⟨w.heap.size, 2, none⟩ = some (.slice wo m wc) ∧ fb < wx.heap.size ∧ w.heap.size < wx.heap.size ∧ Below w.heap.size w wx) := fun wx h => by
    obtain ⟨b, off, e, hl, hc⟩ := hF.cells (by omega)
    injection e with e
    injection e with e1 e2
    subst e1 e2
    have hb : Below w.heap.size w wx := HB.out.trans (h.mono (by omega))
    have hbx : wx.heap[w.heap.size]? = some _ := (h.block _ (by omega)).trans HBX.out
    obtain ⟨c0, c1, c2⟩ := box3 hbx
    exact ⟨(hb.cell (p := ⟨fb, fof, none⟩) hl).trans (hc 0 0 h0), (hb.cell (p := ⟨fb, _, none⟩) hl).trans (hc n m hn), c0, c1, c2, Nat.lt_of_lt_of_le hl hb.size, lt_of_get hbx, hb⟩
  have HNC : Hid (∀ wx, Calls Try.prog 62 #[.agg #[.slice (some ⟨fb, fof, none⟩) (n + 1) fc, .slice to m tc, .slice wo m wc]] wx fun e w' => e = .returned (.int .i64 n) ∧ Below wx.heap.size wx w') := fun wx => nodes_calls _ to wo n fc m tc m wc (by omega) wx
  clear hF h0 hn
  go_enter Try.func61, Try.ntmps61
  go_wp2_with fail
  obtain ⟨q0, q1, q2, q3, q4, q5, q6, _⟩ := HK.out _ (Below.refl _ _)
  have HN0 : Hid (Below (w.heap.size + 1) (w.alloc (.cells #[.slice (some ⟨fb, fof, none⟩) (n + 1) fc, .slice to m tc, .slice wo m wc] 27)) (w.alloc (.cells #[.slice (some ⟨fb, fof, none⟩) (n + 1) fc, .slice to m tc, .slice wo m wc] 27))) := Below.refl _ _
  generalize w.alloc (.cells #[.slice (some ⟨fb, fof, none⟩) (n + 1) fc, .slice to m tc, .slice wo m wc] 27) = W0 at *
  have e1 : (n : Int) < ((n + 1 : Nat) : Int) := by omega
  have e3 : (n : Int) < (n : Int) + 1 := by omega
  have e4 : (0 : Int) ≤ (n : Int) := by omega
  have e2 : IntKind.i64.wrap (n : Int) = (n : Int) := by rw [IntKind.wrap_i64] <;> omega
  go_region_held3 (fun w' => w'.cell? ⟨fb, fof, none⟩ = some (.int .i64 0) ∧ w'.cell? ⟨fb, fof + n, none⟩ = some (.int .i64 m) ∧ w'.cell? ⟨w.heap.size, 0, none⟩ = some (.slice (some ⟨fb, fof, none⟩) (n + 1) fc) ∧ w'.cell? ⟨w.heap.size, 1, none⟩ = some (.slice to m tc) ∧ w'.cell? ⟨w.heap.size, 2, none⟩ = some (.slice wo m wc)) (go_keep) (first
    | (go_at_call 62; refine (HNC.out _).mono ?_; rintro e w1 ⟨rfl, hL1⟩; have HL1 : Hid (Below (w.heap.size + 1) W0 w1) := HN0.out.drew.trans (hL1.mono (by show _ ≤ W0.heap.size; omega)); obtain ⟨g0, g1, g2, g3, g4, g5, g6, _⟩ := HK.out w1 HL1.out; clear hL1))
  have h65 : ¬ (65536 : Int) < (n : Int) := by omega
  have h26 : ¬ (262144 : Int) < (m : Int) := by omega
  clear q0 q1 q2 q3 q4 q5 q6 HN0
  go_wp2_with (go_at_call 62; refine (HNC.out _).mono ?_; rintro e w2 ⟨rfl, hL2⟩; have HL2 : Hid (Below (w.heap.size + 1) W0 w2) := HL1.out.trans (hL2.mono (by show _ ≤ w1.heap.size; omega)); obtain ⟨i0, i1, i2, i3, i4, i5, i6, _⟩ := HK.out w2 HL2.out; clear hL2)
  have HBZ : Hid (Below w.heap.size w w2) := (HK.out w2 HL2.out).2.2.2.2.2.2.2
  go_ret
  exact ⟨rfl, HBZ.out⟩
end Go.Proofs.Ytefcmpdnlbpjpaa
