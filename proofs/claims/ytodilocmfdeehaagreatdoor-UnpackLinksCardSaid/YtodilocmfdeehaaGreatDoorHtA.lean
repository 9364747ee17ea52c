/- a hierarchy turned about: mathematics. -/
import Derived.Test.YtodilocmfdeehaaGreatDoorHsE
import Derived.Test.YtodilocmfdeehaaGreatDoorHrU
namespace Go.Proofs.YtodilocmfdeehaaGreatDoor.Hi

def turnH (h : Hr) : Hr := ⟨h.node, h.dnF, h.dn.map (turnL h.up.length h.dn.length), h.upF, h.up.map (turnL h.up.length h.dn.length)⟩
/-- a standing link turned about. -/
def flipS (p q : Nat) (s : Sd) : Sd := ⟨turnL p q s.lk, s.rk, !s.up⟩
def upsS (h : Hr) : List Sd := (rkL h.upF h.up).map upS
def dnsS (h : Hr) : List Sd := (rkL h.dnF h.dn).map dnS
theorem stds_parts (h : Hr) : stds h = upsS h ++ dnsS h := rfl
theorem upsS_len {h : Hr} (hu : FOk h.upF h.up.length) : (upsS h).length = h.up.length := by unfold upsS; rw [List.length_map, rkL_len hu]
theorem sd_up {h : Hr} (hu : FOk h.upF h.up.length) (_hd : FOk h.dnF h.dn.length) {i : Nat} (hi : i < (stds h).length) : (sd (stds h) i).up = decide (i < h.up.length) := by
  have := sd_get hi
  generalize sd (stds h) i = s at *
  rcases Nat.lt_or_ge i h.up.length with h1 | h1
  · rw [stds_parts, List.getElem?_append_left (by rw [upsS_len hu]; omega)] at this
    unfold upsS at this
    rw [List.getElem?_map] at this
    obtain ⟨y, hy, rfl⟩ := Option.map_eq_some_iff.1 this
    simp [upS, h1]
  · rw [stds_parts, List.getElem?_append_right (by rw [upsS_len hu]; omega)] at this
    unfold dnsS at this
    rw [List.getElem?_map] at this
    obtain ⟨y, hy, rfl⟩ := Option.map_eq_some_iff.1 this
    simp [dnS]; omega
/-- what being well made says of a shortcut. -/
structure Made (s : Sd) (all : List Sd) : Prop where
  l1 : s.lk.lf < all.length
  l2 : s.lk.rt < all.length
  u1 : (sd all s.lk.lf).up = false
  u2 : (sd all s.lk.rt).up = true
  rk : (sd all s.lk.lf).rk = (sd all s.lk.rt).rk
  t1 : (sd all s.lk.lf).tail = s.tail
  t2 : (sd all s.lk.rt).head = s.head
  ws : max s.lk.wt (max (sd all s.lk.lf).lk.wt (sd all s.lk.rt).lk.wt) ≤ 140737488355328
  wt : s.lk.wt = (sd all s.lk.lf).lk.wt + (sd all s.lk.rt).lk.wt
theorem made_iff {s : Sd} {all : List Sd} (hp : s.lk.plain = false) : making s all = 0 ↔ Made s all := by
  unfold making
  rw [if_neg (by simp [hp])]
  constructor
  · intro h0
    split at h0
    · exact absurd h0 (by decide)
    · rename_i a1
      split at h0
      · exact absurd h0 (by decide)
      · rename_i a2
        split at h0
        · exact absurd h0 (by decide)
        · rename_i a3
          simp only [not_or, Bool.not_eq_true, Bool.not_eq_false, Decidable.not_not] at a1 a2 a3
          exact ⟨by omega, by omega, a2.1, a2.2.1, a2.2.2.1, a2.2.2.2.1, a2.2.2.2.2, by omega, a3.2⟩
  · intro m
    rw [if_neg (by have := m.l1; have := m.l2; omega), if_neg (by simp [m.u1, m.u2, m.rk, m.t1, m.t2]), if_neg (by have := m.ws; have := m.wt; omega)]
/-- a link of a hierarchy in form, by its number. -/
structure InForm (h : Hr) (i : Nat) : Prop where
  rise : rising (stds h) i = true
  low : (sd (stds h) i).rk < (sd (stds h) i).lk.hd
  high : (sd (stds h) i).lk.hd < h.node.length
  mak : making (sd (stds h) i) (stds h) = 0
theorem in_form {h : Hr} (hc : chk h = (0, [])) {i : Nat} (hi : i < (stds h).length) : InForm h i := by
  obtain ⟨k1, k2, k3, k4, k5, k6, k7, k8⟩ := chk_ok hc
  obtain ⟨a, b, c, d⟩ := form_at k8 hi
  exact ⟨a, b, c, d⟩
end Go.Proofs.YtodilocmfdeehaaGreatDoor.Hi
