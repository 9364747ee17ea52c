/- ref01.Word: a place in words. -/
import Derived.Test.YtkmbffdjgpjojaaDoorTextW
namespace Go.Proofs.YtkmbffdjgpjojaaDoor
open Go.RowKit Go.Extern

set_option maxHeartbeats 1000000 in
theorem word_calls (p : Int × Int) (h : in64 p.2) (w : World) (hpow : HasPow w) :
    Calls Tryd.prog 27 #[.agg #[.int .i64 p.1, .int .i64 p.2]] w fun e w' => e = .returned (.string ⟨(wordOf p).toArray⟩) ∧ Below w.heap.size w w' := by
  obtain ⟨k, a⟩ := p
  have hb0 : Below w.heap.size w (w.alloc (.cells #[.int .i64 k, .int .i64 a] 34)) := (Below.refl _ _).alloc (Nat.le_refl _) _
  have HIT : Hid (Calls Tryd.prog 38 #[.int .i64 a] (w.alloc (.cells #[.int .i64 k, .int .i64 a] 34)) fun e w' => e = .returned (.string ⟨(Lib.itoa a).toArray⟩) ∧ Below (w.alloc (.cells #[.int .i64 k, .int .i64 a] 34)).heap.size (w.alloc (.cells #[.int .i64 k, .int .i64 a] 34)) w') :=
    itoa_calls a h.1 h.2 _ (hpow.keep hb0)
  have hil : (ByteArray.mk (Lib.itoa a).toArray).size ≤ 21 := Lib.itoa_length_le a h.1 h.2
  have HS : Hid (∀ kb : List UInt8, kindBytes k = kb → (ByteArray.mk kb.toArray ++ ByteArray.mk #[32]) ++ ByteArray.mk (Lib.itoa a).toArray = ⟨(wordOf (k, a)).toArray⟩) := fun kb hk => by
    rw [show (#[32] : Array UInt8) = [32].toArray from rfl, ByteArray.mk_append_mk, ByteArray.mk_append_mk]
    simp only [wordOf]
    rw [hk]
  generalize ByteArray.mk (Lib.itoa a).toArray = I at HIT hil HS
  generalize ByteArray.mk (wordOf (k, a)).toArray = R at HS
  have HB0 : Hid (Below w.heap.size w (w.alloc (.cells #[.int .i64 k, .int .i64 a] 34))) := hb0
  clear hb0 hpow h
  have s1 : ¬ 9223372036854775807 < 5 + I.size := by omega
  have s2 : ¬ 9223372036854775807 < 4 + I.size := by omega
  have s3 : ¬ 9223372036854775807 < 6 + I.size := by omega
  by_cases h1 : k = 1
  · have HR := HS.out [108, 105, 110, 101] (by simp [kindBytes, h1])
    subst h1
    go_enter Tryd.func27, Tryd.ntmps27
    go_wp2_with (go_at_call 38; refine HIT.out.mono ?_; rintro e w' ⟨rfl, hb⟩)
    go_ret
    exact ⟨rfl, HB0.out.trans (hb.mono (by simp))⟩
  by_cases h2 : k = 2
  · have HR := HS.out [98, 121, 116, 101] (by simp [kindBytes, h2])
    subst h2
    go_enter Tryd.func27, Tryd.ntmps27
    go_wp2_with (go_at_call 38; refine HIT.out.mono ?_; rintro e w' ⟨rfl, hb⟩)
    go_ret
    exact ⟨rfl, HB0.out.trans (hb.mono (by simp))⟩
  by_cases h3 : k = 3
  · have HR := HS.out [110, 111, 100, 101] (by simp [kindBytes, h3])
    subst h3
    go_enter Tryd.func27, Tryd.ntmps27
    go_wp2_with (go_at_call 38; refine HIT.out.mono ?_; rintro e w' ⟨rfl, hb⟩)
    go_ret
    exact ⟨rfl, HB0.out.trans (hb.mono (by simp))⟩
  by_cases h4 : k = 4
  · have HR := HS.out [97, 114, 99] (by simp [kindBytes, h4])
    subst h4
    go_enter Tryd.func27, Tryd.ntmps27
    go_wp2_with (go_at_call 38; refine HIT.out.mono ?_; rintro e w' ⟨rfl, hb⟩)
    go_ret
    exact ⟨rfl, HB0.out.trans (hb.mono (by simp))⟩
  by_cases h5 : k = 5
  · have HR := HS.out [115, 116, 101, 112] (by simp [kindBytes, h5])
    subst h5
    go_enter Tryd.func27, Tryd.ntmps27
    go_wp2_with (go_at_call 38; refine HIT.out.mono ?_; rintro e w' ⟨rfl, hb⟩)
    go_ret
    exact ⟨rfl, HB0.out.trans (hb.mono (by simp))⟩
  have HR := HS.out [112, 108, 97, 99, 101] (by simp [kindBytes, h1, h2, h3, h4, h5])
  have e1 : (k == 1) = false := beq_eq_false_iff_ne.2 h1
  have e2 : (k == 2) = false := beq_eq_false_iff_ne.2 h2
  have e3 : (k == 3) = false := beq_eq_false_iff_ne.2 h3
  have e4 : (k == 4) = false := beq_eq_false_iff_ne.2 h4
  have e5 : (k == 5) = false := beq_eq_false_iff_ne.2 h5
  clear h1 h2 h3 h4 h5 HS
  go_enter Tryd.func27, Tryd.ntmps27
  go_wp2_with (go_at_call 38; refine HIT.out.mono ?_; rintro e w' ⟨rfl, hb⟩)
  go_ret
  exact ⟨rfl, HB0.out.trans (hb.mono (by simp))⟩
end Go.Proofs.YtkmbffdjgpjojaaDoor
