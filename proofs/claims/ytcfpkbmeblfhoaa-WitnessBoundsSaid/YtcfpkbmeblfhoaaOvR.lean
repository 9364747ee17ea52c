/- an overlay's Out, In, Weight. -/
import Derived.Test.YtcfpkbmeblfhoaaOvQ
namespace Go.Proofs.Ytcfpkbmeblfhoaa
open Go.RowKit Go.Extern Go.Sort

attribute [local go_sem] Oper.semAt_some

/-- rows are in order. -/
structure RowsOk (n : Nat) (R : Bool → Nat → Rw) : Prop where
  rise : ∀ s u, u < n → RiseH (R s u).2.1
  node : ∀ s u, u < n → ∀ a ∈ (R s u).2.1, 0 ≤ a.1 ∧ a.1 < (n : Int)
  gone : ∀ s u, u < n → (R s u).2.2 ≤ (R s u).2.1.length
theorem rise_ge {l : List H3} (hr : RiseH l) (h0 : ∀ a ∈ l, 0 ≤ a.1) : ∀ (i : Nat) (a : H3), l[i]? = some a → (i : Int) ≤ a.1
  | 0, a, h => by simpa using h0 a (List.mem_of_getElem? h)
  | i + 1, a, h => by
    have hl := (List.getElem?_eq_some_iff.1 h).1
    have hb : l[i]? = some l[i] := List.getElem?_eq_getElem (by omega)
    have h1 := rise_ge hr h0 i _ hb
    have h2 := hr.lt hb h (by omega)
    omega
theorem rise_len {l : List H3} {n : Nat} (hr : RiseH l) (h0 : ∀ a ∈ l, 0 ≤ a.1 ∧ a.1 < (n : Int)) : l.length ≤ n := by
  rcases Nat.eq_zero_or_pos l.length with h | h
  · omega
  · have hb : l[l.length - 1]? = some l[l.length - 1] := List.getElem?_eq_getElem (by omega)
    have h1 := rise_ge hr (fun a ha => (h0 a ha).1) _ _ hb
    have h2 := (h0 _ (List.mem_of_getElem? hb)).2
    omega
section
variable {w w' : World} {PX : Nat → Option Obj} {B pb ab n : Nat} {sb : Bool → Nat} {bs : List Bool} {R : Bool → Nat → Rw} {nodes arcs : Int}
theorem OvMem.rc (_h : OvMem PX w B pb ab sb n bs R nodes arcs) (s : Bool) {u : Nat} (hu : u < n) : (rC n (R s))[u * 2]? = some (R s u).1 ∧ (rC n (R s))[u * 2 + 1]? = some (.int .i64 ((R s u).2.2 : Nat)) := by
  refine ⟨?_, ?_⟩
  · rw [rC_get, if_pos (show u * 2 < n * 2 by omega)]
    simp [show u * 2 / 2 = u by omega]
  · rw [rC_get, if_pos (show u * 2 + 1 < n * 2 by omega)]
    simp [show (u * 2 + 1) / 2 = u by omega, show (u * 2 + 1) % 2 = 1 by omega]
theorem OvMem.len (h : OvMem PX w B pb ab sb n bs R nodes arcs) (hk : RowsOk n R) (s : Bool) {u : Nat} (hu : u < n) : (R s u).2.1.length ≤ 65536 := Nat.le_trans (rise_len (hk.rise s u hu) (hk.node s u hu)) h.big
theorem OvMem.ne (h : OvMem PX w B pb ab sb n bs R nodes arcs) (s : Bool) : ab ≠ sb s ∧ pb ≠ sb s ∧ pb ≠ ab := by
  refine ⟨fun e => ?_, fun e => ?_, fun e => ?_⟩
  · have h1 := h.al; rw [e, h.row s] at h1; simp at h1
  · have h1 := h.box; rw [e, h.row s] at h1; simp at h1
  · have h1 := h.box; rw [e, h.al] at h1; simp at h1
theorem OvMem.living (h : OvMem PX w B pb ab sb n bs R nodes arcs) (hk : RowsOk n R) (s : Bool) {u : Nat} (hu : u < n) :
    Calls Try.prog 69 #[.pointer (some ⟨sb s, u * 2, none⟩), .slice (some ⟨ab, 0, none⟩) n n] w fun e w' => ∃ v', e = .returned v' ∧ w'.ownsRow w.heap.size 57 3 v' (livH bs (R s u).2.1).length (flatH (livH bs (R s u).2.1)) ∧ Below w.heap.size w w' := by
  have hb := h.bl
  subst hb
  exact living_calls (sb s) (u * 2) ab _ _ _ (R s u).1 (R s u).2.2 (R s u).2.1 bs w (h.row s) (h.rc s hu).1 (h.rc s hu).2 (hs_of_rowH (h.own s u hu)) h.al (hk.gone s u hu) (by have := h.len hk s hu; omega) (hk.node s u hu)

set_option maxRecDepth 100000 in
set_option maxHeartbeats 2000000 in
theorem out_calls (h : OvMem PX w B pb ab sb n bs R nodes arcs) (hk : RowsOk n R) (x : Int) : Calls Try.prog 46 #[.pointer (some ⟨pb, 0, none⟩), .int .i64 x] w fun e w' => ∃ v' : Value, e = .returned v' ∧ (aliveB n bs x = false → v' = .slice none 0 0) ∧ (aliveB n bs x = true → w'.ownsRow w.heap.size 57 3 v' (livH bs (R false x.toNat).2.1).length (flatH (livH bs (R false x.toNat).2.1))) ∧ Below w.heap.size w w' := by
  obtain ⟨c0, c1, c2, c3, c4, cs⟩ := h.cells
  have HA : Hid (type_of% (alive_calls h x)) := alive_calls h x
  cases hx : aliveB n bs x with
  | true =>
    rw [hx] at HA
    obtain ⟨m, rfl⟩ : ∃ m : Nat, x = (m : Int) := ⟨x.toNat, by simp [aliveB, isN] at hx; omega⟩
    have hm : m < n := by simp [aliveB, isN] at hx; omega
    have HL : Hid (type_of% ((h.keep (Below.refl _ w).drew).living hk false hm)) := (h.keep (Below.refl _ w).drew).living hk false hm
    have i1 : (m : Int) < (n : Int) := by omega
    have i2 : (0 : Int) ≤ (m : Int) := by omega
    rw [Int.toNat_natCast]
    clear h hx
    go_enter Try.func46, Try.ntmps46
    go_wp2_with fail
    refine HA.out.mono ?_
    rintro e w1 ⟨rfl, hw1⟩
    subst hw1
    go_wp2_with fail
    go_region_held3 (fun w' => w'.cell? ⟨pb, 0, none⟩ = some (.slice (some ⟨ab, 0, none⟩) n n) ∧ w'.cell? ⟨pb, 1, none⟩ = some (.slice (some ⟨sb false, 0, none⟩) n n)) (go_keep) (first
      | (go_at_call 69; refine HL.out.mono ?_; rintro e y1 ⟨v', rfl, y2, y3⟩; obtain ⟨qo, qc, hv3⟩ := rowH_slice y2; subst hv3; have Y1 : Hid (type_of% (And.intro y2 y3)) := ⟨y2, y3⟩; have z0 := (y3.cell (p := ⟨pb, 0, none⟩) cs).trans c0; have z1 := (y3.cell (p := ⟨pb, 1, none⟩) cs).trans c1; clear y2 y3))
    go_wp2
    go_ret
    exact ⟨_, rfl, fun e => (by cases e), fun _ => Y1.out.1, (Below.refl _ _).drew.trans Y1.out.2⟩
  | false =>
    rw [hx] at HA
    clear h hx
    go_enter Try.func46, Try.ntmps46
    go_wp2_with fail
    refine HA.out.mono ?_
    rintro e w1 ⟨rfl, hw1⟩
    subst hw1
    go_wp2
    go_ret
    exact ⟨_, rfl, fun _ => rfl, fun e => (by cases e), Below.refl _ _⟩

/-- the weight of an arc, if there is one. -/
def weightM (n : Nat) (bs : List Bool) (R : Bool → Nat → Rw) (x y : Int) : Option Int :=
  if aliveB n bs x && aliveB n bs y then (if hasH (R false x.toNat).2.1 y then some ((R false x.toNat).2.1[lowH (R false x.toNat).2.1 y]?.getD (0, 0, 0)).2.1 else none) else none

end
end Go.Proofs.Ytcfpkbmeblfhoaa
