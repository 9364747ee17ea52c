/- viaductref09.Simple, whatever the list: what simpS makes of it, in memory of its own. -/
import Derived.Test.YtdfjmfgbdnpkbaaDoorWkS
namespace Go.Proofs.YtdfjmfgbdnpkbaaDoor
open Go.RowKit Go.Extern

attribute [local go_sem] Oper.semAt_some

/-- where a number stands among the first ones looked at, or -1. -/
def atV (s : List Int) (v : Int) (t : Nat) : Int := if v ∈ s.take t then (s.idxOf v : Int) else -1
theorem atV_none (s : List Int) (v : Int) : atV s v 0 = -1 := by simp [atV]
theorem atV_next {s : List Int} (h : s.Nodup) {v x : Int} {t : Nat} (hx : s[t]? = some x) : atV s v (t + 1) = if x = v then (t : Int) else atV s v t := by
  unfold atV
  rw [take_snoc hx]
  by_cases e : x = v
  · subst e
    obtain ⟨h1, h2⟩ := List.getElem?_eq_some_iff.1 hx
    have e1 := List.Nodup.idxOf_getElem h t h1
    rw [h2] at e1
    rw [if_pos (by simp), if_pos rfl, e1]
  · rw [if_neg e]
    have e2 : (v ∈ s.take t ++ [x]) ↔ v ∈ s.take t := by
      simp
      exact fun h => absurd h.symm e
    simp only [e2]
theorem atV_all (s : List Int) (v : Int) : atV s v s.length = if v ∈ s then (s.idxOf v : Int) else -1 := by
  unfold atV
  rw [List.take_length]
/-- what holds at each round. -/
structure RSI (w : World) (s : List Int) (ko : Option Addr) (kc : Nat) (wr : World) : Prop where
  row : wr.ownsRow w.heap.size 3 1 (.slice ko s.length kc) s.length (iv s)
  below : Below w.heap.size w wr

set_option maxRecDepth 100000 in
set_option maxHeartbeats 4000000 in
theorem rSimple_calls (lo : Option Addr) (lc : Nat) (xs : List Int) (w : World) (hl : HasInts w (.slice lo xs.length lc) xs) (hm : xs.length * 8 ≤ 140737488351232) :
    Calls Tryd.prog 19 #[.slice lo xs.length lc] w fun e w' => ∃ so sc, e = .returned (.slice so (simpS xs).length sc) ∧ w'.ownsRow w.heap.size 3 1 (.slice so (simpS xs).length sc) (simpS xs).length (iv (simpS xs)) ∧ Below w.heap.size w w' := by
  have HL : Hid (HasInts w (.slice lo xs.length lc) xs) := hl
  obtain ⟨i0, hi, hz0, hz1, hz2⟩ : ∃ i, Tryd.prog.info? 3 = some i ∧ i.zero = some (.int .i64 0) ∧ i.size = 1 ∧ i.bytes = 8 := by
    have h := infoJ
    cases hi : Tryd.prog.info? 3 with
    | none => rw [hi] at h; cases h
    | some i => rw [hi] at h; simp at h; exact ⟨i, rfl, h.1, h.2.1, h.2.2⟩
  clear hl
  go_enter Tryd.func19, Tryd.ntmps19
  go_wp2_with fail
  go_loopw [3, 11] (fun kv jv wr => ∃ (k : Nat) (ko : Option Addr) (kc : Nat), k ≤ xs.length ∧ jv = .int .i64 k ∧ kv = .slice ko (simpS (xs.take k)).length kc ∧ RSI w (simpS (xs.take k)) ko kc wr) (fun _ jv _ => xs.length - (intOf jv).toNat)
  case atStart => exact ⟨0, none, 0, Nat.zero_le _, rfl, rfl, ⟨World.ownsRow_nil _ _ _ _, Below.refl _ _⟩⟩
  case round =>
    obtain ⟨k, ko, kc, hk, rfl, rfl, hI⟩ := hrel
    by_cases hlt : k < xs.length
    · obtain ⟨a, ha⟩ : ∃ a, xs[k]? = some a := ⟨xs[k], List.getElem?_eq_getElem hlt⟩
      obtain ⟨b, off, hao, hbl, q0⟩ := HL.out.at ha
      subst hao
      have e0 := (hI.below.cell (p := ⟨b, off + k, none⟩) hbl).trans q0
      have hbw : b < wr.heap.size := Nat.lt_of_lt_of_le hbl hI.below.size
      have HSN : Hid (simpS (xs.take (k + 1)) = stepS (simpS (xs.take k)) a) := simpS_snoc ha
      have HND : Hid ((simpS (xs.take k)).Nodup) := simpS_nodup _
      have hsl : (simpS (xs.take k)).length ≤ k := Nat.le_trans (simpS_len _) (by rw [List.length_take]; omega)
      generalize simpS (xs.take k) = s at *
      have HI : Hid (RSI w s ko kc wr) := hI
      have i0' : (0 : Int) ≤ (k : Int) := by omega
      have i1' : (k : Int) < (xs.length : Int) := by omega
      clear q0 ha hI
      generalize hW1 : wr = W1 at *
      clear hW1
      go_wp2_with fail
      go_loopw [6, 17] (fun av jv wx => ∃ t : Nat, t ≤ s.length ∧ jv = .int .i64 t ∧ av = .int .i64 (atV s a t) ∧ wx = W1) (fun _ jv _ => s.length - (intOf jv).toNat)
      case atStart => exact ⟨0, Nat.zero_le _, rfl, by rw [atV_none], rfl⟩
      case round =>
        obtain ⟨t, ht, rfl, rfl, rfl⟩ := hrel
        by_cases htl : t < s.length
        · obtain ⟨x, hx⟩ : ∃ x, s[t]? = some x := ⟨s[t], List.getElem?_eq_getElem htl⟩
          obtain ⟨g, cap', e, hgB, hgl⟩ := HI.out.row.form (by omega)
          injection e with e1 _ e3
          subst e1
          have c0 : wr.cell? ⟨g, t, none⟩ = some (.int .i64 x) := by
            rw [HI.out.row.cellAt t (by omega)]
            show (s.map (Value.int .i64))[t]? = _
            rw [List.getElem?_map, hx]
            rfl
          have HAT : Hid (atV s a (t + 1) = if x = a then (t : Int) else atV s a t) := atV_next HND.out hx
          have t0 : (0 : Int) ≤ (t : Int) := by omega
          have t1 : (t : Int) < (s.length : Int) := by omega
          clear hx e3
          by_cases hxa : x = a
          · have HA1 : Hid (atV s a (t + 1) = (t : Int)) := by have h := HAT.out; rw [if_pos hxa] at h; exact h
            subst hxa
            go_wp2
            go_roundw
            case rel => exact ⟨t + 1, by omega, by go_num, by rw [HA1.out], trivial⟩
            case measure => simp [intOf]; omega
          · have HA1 : Hid (atV s a (t + 1) = atV s a t) := by have h := HAT.out; rw [if_neg hxa] at h; exact h
            have hxb : (x == a) = false := beq_eq_false_iff_ne.mpr hxa
            go_wp2
            go_roundw
            case rel => exact ⟨t + 1, by omega, by go_num, by rw [HA1.out], trivial⟩
            case measure => simp [intOf]; omega
        · obtain rfl : t = s.length := by omega
          rw [atV_all]
          by_cases hv : a ∈ s
          · have HSE : Hid (simpS (xs.take (k + 1)) = s.take (s.idxOf a + 1)) := by
              have h := HSN.out
              unfold stepS at h
              rw [if_pos hv] at h
              exact h
            have hpl : s.idxOf a < s.length := List.idxOf_lt_length_of_mem hv
            rw [if_pos hv]
            have hIr := HI.out.row
            obtain ⟨g, cap', e, hgB, hgl⟩ := hIr.form (by omega)
            injection e with e1 _ e3
            subst e1
            subst e3
            have hle : s.length ≤ kc := by
              rcases hIr.2 with ⟨e, _⟩ | ⟨g', c', cur, e, _, _, h, _⟩
              · cases e
              · cases e; exact h
            generalize s.idxOf a = p at *
            have hr3 : ∀ wx, (Instr.slice 22 (.slice (some ⟨g, 0, none⟩) s.length kc) none (some (.int .i64 ((p : Int) + 1))) none).run Tryd.prog wx = .ok (.slice (some ⟨g, 0, none⟩) (p + 1) kc) wx := fun wx => by
              have h := isl_to g s.length kc (p + 1) hle (by omega) wx
              simpa using h
            have hw1 : IntKind.i64.wrap ((p : Int) + 1) = (p : Int) + 1 := by rw [IntKind.wrap_i64] <;> omega
            have hp0 : (0 : Int) ≤ (p : Int) := by omega
            clear hIr hgB hgl hv
            go_wp2
            have hpt : (s.take (p + 1)).length = p + 1 := by rw [List.length_take]; omega
            refine ⟨⟨k + 1, some ⟨g, 0, none⟩, kc, by omega, by go_num, by rw [HSE.out, hpt], ?_⟩, by simp [intOf]; omega⟩
            rw [HSE.out]
            refine ⟨?_, HI.out.below⟩
            rw [hpt]
            exact iown_cut HI.out.row (by omega)
          · rw [if_neg hv]
            have HSE : Hid (simpS (xs.take (k + 1)) = s ++ [a]) := by
              have h := HSN.out
              unfold stepS at h
              rw [if_neg hv] at h
              exact h
            clear hv
            go_wp2_with (at_builtin; refine wpList_append_own _ rfl _ _ 22 rfl w.heap.size 3 i0 (.int .i64 0) 1 8 Tryd.underlying22 hi hz0 hz1 hz2 rfl (by decide) (.slice ko s.length kc) s.length (iv s) rfl (iown_alloc HI.out.row _) ⟨wr.heap.size, 0, none⟩ 1 1 [.int .i64 a] rfl rfl (cell_one1 _ _) (by intro x hx; simp at hx; subst hx; rfl) (by unfold maxLen; omega) (by omega) (by have h1 := HI.out.below.size; simp; omega) ?_; intro v' w2 hown2 hgrow2 _; have HR2 : Hid (w2.ownsRow w.heap.size 3 1 v' (s.length + 1) (iv s ++ [.int .i64 a])) := hown2; have HG2 : Hid ((wr.alloc (.cells #[.int .i64 a] 3)).grownBy w2 (Value.slice ko s.length kc).ownBlock) := hgrow2; clear hown2 hgrow2; obtain ⟨vo, vc, hv2⟩ := iown_slice HR2.out; subst hv2)
            refine ⟨⟨k + 1, vo, vc, by omega, by go_num, by rw [HSE.out, List.length_append]; rfl, ?_⟩, by simp [intOf]; omega⟩
            rw [HSE.out]
            have hrow := iown_alloc HI.out.row (.cells #[.int .i64 a] 3)
            refine ⟨?_, below_g (HI.out.below.alloc HI.out.below.size _) HG2.out (fun k e => (hrow.lt k e.symm).1)⟩
            rw [iv_append, List.length_append]
            exact HR2.out
    · obtain rfl : k = xs.length := by omega
      rw [List.take_length] at hI ⊢
      have HI : Hid (RSI w (simpS xs) ko kc wr) := hI
      clear hI
      go_wp2
      go_ret
      exact ⟨ko, kc, rfl, HI.out.row, HI.out.below⟩
end Go.Proofs.YtdfjmfgbdnpkbaaDoor
