/- The queue's own methods, walked; container/heap's way to them. -/
import Derived.Test.YtcfpkbmeblfhoaaWtQ
import Derived.Handy
import Derived.BigRegion
import Derived.Deep.RegionHeld3
namespace Go.Proofs.Ytcfpkbmeblfhoaa.Wt
open Go Go.RowKit Go.Extern

attribute [local go_sem] Oper.semAt_some

/-- which method it is that the interface leads to. -/
theorem inv_less (F : Nat) (hF : 0 < F) (w : World) (sb : Nat) (so : Option Addr) (n c : Nat) (h : w.cell? ⟨sb, 5, none⟩ = some (.slice so n c)) : (method F 103 (.pointer (some ⟨sb, 5, none⟩)) "Less").run Try.prog w = .ok (100, .slice so n c) w := by
  obtain ⟨F, rfl⟩ : ∃ f, F = f + 1 := ⟨F - 1, by omega⟩
  unfold method
  have hf : (Array.find? (fun x => x.name == "Less") Go.Proofs.Try.t103.methods).map (fun m => (m.path, m.func)) = some (#[], some (100, false)) := by kernel_rfl
  obtain ⟨m, hm, hp⟩ := Option.map_eq_some_iff.1 hf
  have hp1 : m.path = #[] := congrArg Prod.fst hp
  have hp2 : m.func = some (100, false) := congrArg Prod.snd hp
  have hc : ∀ (t : String) w, (Builtin.ssaWrapNilChk_ #[103] 103 #[.pointer (some ⟨sb, 5, none⟩), strVal "", strVal t]).run Try.prog w = .ok (.pointer (some ⟨sb, 5, none⟩)) w := fun _ _ => by kernel_rfl
  simp [go_sem, hm, hp1, hp2, follow, receiverAt, Place.get, h, hc]
theorem inv_len (F : Nat) (hF : 0 < F) (w : World) (sb : Nat) (so : Option Addr) (n c : Nat) (h : w.cell? ⟨sb, 5, none⟩ = some (.slice so n c)) : (method F 103 (.pointer (some ⟨sb, 5, none⟩)) "Len").run Try.prog w = .ok (43, .slice so n c) w := by
  obtain ⟨F, rfl⟩ : ∃ f, F = f + 1 := ⟨F - 1, by omega⟩
  unfold method
  have hf : (Array.find? (fun x => x.name == "Len") Go.Proofs.Try.t103.methods).map (fun m => (m.path, m.func)) = some (#[], some (43, false)) := by kernel_rfl
  obtain ⟨m, hm, hp⟩ := Option.map_eq_some_iff.1 hf
  have hp1 : m.path = #[] := congrArg Prod.fst hp
  have hp2 : m.func = some (43, false) := congrArg Prod.snd hp
  have hc : ∀ (t : String) w, (Builtin.ssaWrapNilChk_ #[103] 103 #[.pointer (some ⟨sb, 5, none⟩), strVal "", strVal t]).run Try.prog w = .ok (.pointer (some ⟨sb, 5, none⟩)) w := fun _ _ => by kernel_rfl
  simp [go_sem, hm, hp1, hp2, follow, receiverAt, Place.get, h, hc]
theorem inv_swap (F : Nat) (hF : 0 < F) (w : World) (sb : Nat) (so : Option Addr) (n c : Nat) (h : w.cell? ⟨sb, 5, none⟩ = some (.slice so n c)) : (method F 103 (.pointer (some ⟨sb, 5, none⟩)) "Swap").run Try.prog w = .ok (101, .slice so n c) w := by
  obtain ⟨F, rfl⟩ : ∃ f, F = f + 1 := ⟨F - 1, by omega⟩
  unfold method
  have hf : (Array.find? (fun x => x.name == "Swap") Go.Proofs.Try.t103.methods).map (fun m => (m.path, m.func)) = some (#[], some (101, false)) := by kernel_rfl
  obtain ⟨m, hm, hp⟩ := Option.map_eq_some_iff.1 hf
  have hp1 : m.path = #[] := congrArg Prod.fst hp
  have hp2 : m.func = some (101, false) := congrArg Prod.snd hp
  have hc : ∀ (t : String) w, (Builtin.ssaWrapNilChk_ #[103] 103 #[.pointer (some ⟨sb, 5, none⟩), strVal "", strVal t]).run Try.prog w = .ok (.pointer (some ⟨sb, 5, none⟩)) w := fun _ _ => by kernel_rfl
  simp [go_sem, hm, hp1, hp2, follow, receiverAt, Place.get, h, hc]
theorem inv_push (F : Nat) (hF : 0 < F) (w : World) (sb : Nat) : (method F 103 (.pointer (some ⟨sb, 5, none⟩)) "Push").run Try.prog w = .ok (104, .pointer (some ⟨sb, 5, none⟩)) w := by
  obtain ⟨F, rfl⟩ : ∃ f, F = f + 1 := ⟨F - 1, by omega⟩
  kernel_rfl
theorem inv_pop (F : Nat) (hF : 0 < F) (w : World) (sb : Nat) : (method F 103 (.pointer (some ⟨sb, 5, none⟩)) "Pop").run Try.prog w = .ok (103, .pointer (some ⟨sb, 5, none⟩)) w := by
  obtain ⟨F, rfl⟩ : ∃ f, F = f + 1 := ⟨F - 1, by omega⟩
  kernel_rfl
theorem below_drewW {n : Nat} {w w' : World} (h : Below n w w') : ∀ k, Below n w (w'.drewN k) := fun _ => ⟨h.os, h.tape, h.output, h.size, h.block⟩
section
variable {w : World} {sb : Nat} {c0 c1 c2 c3 c4 : Value} {Q : List Th} {so : Option Addr} {c : Nat}
theorem wlen_calls (so : Option Addr) (n c : Nat) (w : World) : Calls Try.prog 43 #[.slice so n c] w fun e w' => e = .returned (.int .i64 n) ∧ w' = w := by
  go_enter Try.func43, Try.ntmps43
  go_wp2
  go_ret
  exact ⟨rfl, rfl⟩

set_option maxRecDepth 100000 in
set_option maxHeartbeats 4000000 in
theorem wless_calls (h : QMem w sb c0 c1 c2 c3 c4 (.slice so Q.length c) Q) {i j : Nat} (hi : i < Q.length) (hj : j < Q.length) :
    Calls Try.prog 100 #[.slice so Q.length c, .int .i64 i, .int .i64 j] w fun e w' => e = .returned (.bool (decide (ltT (plc Q i) (plc Q j)))) ∧ Below w.heap.size w w' := by
  obtain ⟨a, ha⟩ : ∃ a, Q[i]? = some a := ⟨_, List.getElem?_eq_getElem hi⟩
  obtain ⟨b, hb⟩ : ∃ a, Q[j]? = some a := ⟨_, List.getElem?_eq_getElem hj⟩
  obtain ⟨g, cap, hs, _, _, gl, _, a0, a1, _, _⟩ := h.entry ha
  obtain ⟨g', cap', hs', _, _, _, _, b0, b1, _, _⟩ := h.entry hb
  injection hs with e1 e2 e3
  subst e1 e3
  injection hs' with e1 e2 e3
  injection e1 with e1
  injection e1 with e1
  subst e1
  rw [plc_at ha, plc_at hb]
  have i1 : (i : Int) < (Q.length : Int) := by omega
  have i2 : (0 : Int) ≤ (i : Int) := by omega
  have j1 : (j : Int) < (Q.length : Int) := by omega
  have j2 : (0 : Int) ≤ (j : Int) := by omega
  obtain ⟨r, hr⟩ : ∃ r, decide (ltT a b) = r := ⟨_, rfl⟩
  rw [hr]
  have HR : Hid (decide (ltT a b) = r) := hr
  obtain ⟨n, hn⟩ : ∃ n, Q.length = n := ⟨_, rfl⟩
  rw [hn] at i1 j1 ⊢
  clear h ha hb hr hi hj
  unfold ltT at HR
  by_cases h1 : a.1 < b.1
  · have k1 : decide (a.1 < b.1) = true := decide_eq_true h1
    have HF : Hid (r = true) := by rw [← HR.out]; exact decide_eq_true (Or.inl h1)
    clear h1
    go_enter Try.func100, Try.ntmps100
    go_wp2_with fail
    go_quiet (fail)
    go_wp2
    go_ret
    exact ⟨by rw [HF.out]; rfl, below_drewW (Below.refl _ _) _⟩
  · have k1 : decide (a.1 < b.1) = false := decide_eq_false h1
    by_cases h2 : a.1 = b.1
    · have k2 : (a.1 == b.1) = true := by rw [h2]; exact beq_self_eq_true _
      cases h3 : decide (a.2 < b.2) with
      | true =>
        have HF : Hid (r = true) := by rw [← HR.out]; exact decide_eq_true (Or.inr ⟨h2, of_decide_eq_true h3⟩)
        clear h1 h2
        go_enter Try.func100, Try.ntmps100
        go_wp2_with fail
        go_quiet (fail)
        go_wp2
        go_ret
        exact ⟨by rw [HF.out]; rfl, below_drewW (Below.refl _ _) _⟩
      | false =>
        have HF : Hid (r = false) := by rw [← HR.out]; exact decide_eq_false (fun h => by have := of_decide_eq_false h3; rcases h with h | h; exact h1 h; exact this h.2)
        clear h1 h2
        go_enter Try.func100, Try.ntmps100
        go_wp2_with fail
        go_quiet (fail)
        go_wp2
        go_ret
        exact ⟨by rw [HF.out]; rfl, below_drewW (Below.refl _ _) _⟩
    · have k2 : (a.1 == b.1) = false := beq_eq_false_iff_ne.2 h2
      have HF : Hid (r = false) := by rw [← HR.out]; exact decide_eq_false (fun h => by rcases h with h | h; exact h1 h; exact h2 h.1)
      clear h1 h2
      go_enter Try.func100, Try.ntmps100
      go_wp2_with fail
      go_quiet (fail)
      go_wp2
      go_ret
      exact ⟨by rw [HF.out]; rfl, below_drewW (Below.refl _ _) _⟩
end
end Go.Proofs.Ytcfpkbmeblfhoaa.Wt
