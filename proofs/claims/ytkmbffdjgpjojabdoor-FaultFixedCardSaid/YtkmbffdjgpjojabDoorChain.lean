/- seen.Chain: an error made of places and a number, without errors of another kind: the chain lies in new memory. -/
import Derived.Test.YtkmbffdjgpjojabDoorErrH
import Derived.Test.YtkmbffdjgpjojabDoorCode
namespace Go.Proofs.YtkmbffdjgpjojabDoor
open Go.RowKit Go.Extern

/-- a slice of places in memory, at whatever address. -/
def HasPlaces (w : World) (lv : Value) (ps : List (Int × Int)) : Prop :=
  ∃ ao cap, lv = .slice ao ps.length cap ∧ ∀ j p, ps[j]? = some p → ∃ b off, ao = some ⟨b, off, none⟩ ∧ b < w.heap.size ∧
    w.cell? ⟨b, off + j * 2, none⟩ = some (.int .i64 p.1) ∧ w.cell? ⟨b, off + j * 2 + 1, none⟩ = some (.int .i64 p.2)
theorem HasPlaces.keep {w w' : World} {lv : Value} {ps : List (Int × Int)} (h : HasPlaces w lv ps) (hb : Below w.heap.size w w') : HasPlaces w' lv ps := by
  obtain ⟨ao, cap, e, hc⟩ := h
  refine ⟨ao, cap, e, fun j p hj => ?_⟩
  obtain ⟨b, off, ea, hl, h0, h1⟩ := hc j p hj
  exact ⟨b, off, ea, Nat.lt_of_lt_of_le hl hb.size, (hb.cell (p := ⟨b, _, none⟩) hl).trans h0, (hb.cell (p := ⟨b, _, none⟩) hl).trans h1⟩
/-- what a chain of this number ends in. -/
def IsTail (n : Int) (other : Bool) (tv : Value) : Prop :=
  (n ≠ 0 ∧ tv = .iface 27 (.int .i64 n)) ∨ (n = 0 ∧ other = true ∧ ∃ a, tv = .iface 46 (.pointer (some a))) ∨ (n = 0 ∧ other = false ∧ tv = .nilIface)

theorem shape_of {w : World} {tv : Value} (htv : tv = .nilIface ∨ ∃ T x, tv = .iface T x) {ps : List (Int × Int)} {v : Value} (h : IsErr w tv ps v) : v = .nilIface ∨ ∃ T x, v = .iface T x := by
  cases ps with
  | nil =>
    obtain rfl : v = tv := h
    exact htv
  | cons p ps => obtain ⟨b, u, e, _⟩ := h; exact Or.inr ⟨_, _, e⟩
theorem new_calls (s : ByteArray) (w : World) : Calls Tryd.prog 6 #[.string s] w fun e w' => e = .returned (.iface 46 (.pointer (some ⟨w.heap.size, 0, none⟩))) ∧ Below w.heap.size w w' := by
  go_enter Tryd.func6, Tryd.ntmps6
  go_wp2
  go_ret
  exact ⟨rfl, (Below.refl _ _).alloc (Nat.le_refl _) _⟩

set_option maxRecDepth 100000 in
set_option maxHeartbeats 1000000 in
theorem chain_calls (lv : Value) (ps : List (Int × Int)) (n : Int) (other : Bool) (w : World) (hl : HasPlaces w lv ps) (hm : ps.length ≤ maxLen) :
    Calls Tryd.prog 15 #[lv, .int .i64 n, .bool other] w fun e w' => ∃ tv v, e = .returned v ∧ IsTail n other tv ∧ IsErr w' tv ps v ∧ Below w.heap.size w w' := by
  unfold maxLen at hm
  obtain ⟨ao, cap, hlv⟩ : ∃ ao cap, lv = .slice ao ps.length cap := by
    obtain ⟨ao, cap, e, _⟩ := hl
    exact ⟨ao, cap, e⟩
  subst hlv
  have HL : Hid (HasPlaces w (.slice ao ps.length cap) ps) := hl
  clear hl
  have HN : Hid (∀ b, (n != 0) = b → (b = true → n ≠ 0) ∧ (b = false → n = 0)) := fun b hb => by
    subst hb; simp
  cases hn : (n != 0) <;> cases other
  · have HT : Hid (IsTail n false (.nilIface)) := Or.inr (Or.inr ⟨(HN.out _ hn).2 rfl, rfl, rfl⟩)
    clear HN
    go_enter Tryd.func15, Tryd.ntmps15
    go_wp2_with fail
    go_loopw [7, 8] (fun ev iv wr => ∃ k : Nat, k ≤ ps.length ∧ iv = .int .i64 ((k : Int) - 1) ∧ IsErr wr (.nilIface) (ps.drop k) ev ∧ Below w.heap.size w wr) (fun _ iv _ => (intOf iv + 1).toNat)
    case atStart => exact ⟨ps.length, Nat.le_refl _, rfl, by rw [List.drop_length]; rfl, Below.refl _ _⟩
    case round =>
      obtain ⟨k, hk, rfl, he, hb⟩ := hrel
      have HE : Hid (IsErr wr (.nilIface) (ps.drop k) u7) := he
      have HB : Hid (Below w.heap.size w wr) := hb
      have hsh : u7 = .nilIface ∨ ∃ T x, u7 = .iface T x := shape_of (by first | exact Or.inl rfl | exact Or.inr ⟨_, _, rfl⟩) he
      clear he hb
      cases k with
      | zero =>
        clear hsh
        go_wp2
        go_ret
        exact ⟨_, _, rfl, HT.out, HE.out, HB.out⟩
      | succ k =>
        obtain ⟨p, hp⟩ : ∃ p, ps[k]? = some p := ⟨ps[k], List.getElem?_eq_getElem (by omega)⟩
        have HD : Hid (ps.drop k = p :: ps.drop (k + 1)) := by
          have hg := (List.getElem?_eq_some_iff.1 hp).2
          show _ = _
          rw [List.drop_eq_getElem_cons (by omega), hg]
        obtain ⟨b, off, hao, hbl, hq0, hq1⟩ : ∃ b off, ao = some ⟨b, off, none⟩ ∧ b < w.heap.size ∧ w.cell? ⟨b, off + k * 2, none⟩ = some (.int .i64 p.1) ∧ w.cell? ⟨b, off + k * 2 + 1, none⟩ = some (.int .i64 p.2) := by
          obtain ⟨ao', cap', e, hc⟩ := HL.out
          cases e
          exact hc k p hp
        · subst hao
          have hc0 := (HB.out.cell (p := ⟨b, off + k * 2, none⟩) hbl).trans hq0
          have hc1 := (HB.out.cell (p := ⟨b, off + k * 2 + 1, none⟩) hbl).trans hq1
          have hk' : (k : Int) < ps.length := by omega
          have ek : ((k + 1 : Nat) : Int) - 1 = k := by omega
          rw [ek]
          clear hq0 hq1 hp ek
          rcases hsh with h | ⟨T, x, h⟩
          all_goals
            subst h
            go_wp2
            go_roundw
            case rel => exact ⟨k, by omega, by go_num, by rw [HD.out]; exact isErr_new HE.out, HB.out.alloc HB.out.size _⟩
            case measure => simp [intOf]
  · have HT : Hid (IsTail n true (.iface 46 (.pointer (some ⟨w.heap.size, 0, none⟩)))) := Or.inr (Or.inl ⟨(HN.out _ hn).2 rfl, rfl, _, rfl⟩)
    clear HN
    go_enter Tryd.func15, Tryd.ntmps15
    go_wp2_with (go_at_call 6; refine (new_calls _ _).mono ?_; rintro e w0 ⟨rfl, hb0⟩)
    go_loopw [7, 8] (fun ev iv wr => ∃ k : Nat, k ≤ ps.length ∧ iv = .int .i64 ((k : Int) - 1) ∧ IsErr wr (.iface 46 (.pointer (some ⟨w.heap.size, 0, none⟩))) (ps.drop k) ev ∧ Below w.heap.size w wr) (fun _ iv _ => (intOf iv + 1).toNat)
    case atStart => exact ⟨ps.length, Nat.le_refl _, rfl, by rw [List.drop_length]; rfl, hb0⟩
    case round =>
      obtain ⟨k, hk, rfl, he, hb⟩ := hrel
      have HE : Hid (IsErr wr (.iface 46 (.pointer (some ⟨w.heap.size, 0, none⟩))) (ps.drop k) u7) := he
      have HB : Hid (Below w.heap.size w wr) := hb
      have hsh : u7 = .nilIface ∨ ∃ T x, u7 = .iface T x := shape_of (by first | exact Or.inl rfl | exact Or.inr ⟨_, _, rfl⟩) he
      clear he hb
      cases k with
      | zero =>
        clear hsh
        go_wp2
        go_ret
        exact ⟨_, _, rfl, HT.out, HE.out, HB.out⟩
      | succ k =>
        obtain ⟨p, hp⟩ : ∃ p, ps[k]? = some p := ⟨ps[k], List.getElem?_eq_getElem (by omega)⟩
        have HD : Hid (ps.drop k = p :: ps.drop (k + 1)) := by
          have hg := (List.getElem?_eq_some_iff.1 hp).2
          show _ = _
          rw [List.drop_eq_getElem_cons (by omega), hg]
        obtain ⟨b, off, hao, hbl, hq0, hq1⟩ : ∃ b off, ao = some ⟨b, off, none⟩ ∧ b < w.heap.size ∧ w.cell? ⟨b, off + k * 2, none⟩ = some (.int .i64 p.1) ∧ w.cell? ⟨b, off + k * 2 + 1, none⟩ = some (.int .i64 p.2) := by
          obtain ⟨ao', cap', e, hc⟩ := HL.out
          cases e
          exact hc k p hp
        · subst hao
          have hc0 := (HB.out.cell (p := ⟨b, off + k * 2, none⟩) hbl).trans hq0
          have hc1 := (HB.out.cell (p := ⟨b, off + k * 2 + 1, none⟩) hbl).trans hq1
          have hk' : (k : Int) < ps.length := by omega
          have ek : ((k + 1 : Nat) : Int) - 1 = k := by omega
          rw [ek]
          clear hq0 hq1 hp ek
          rcases hsh with h | ⟨T, x, h⟩
          all_goals
            subst h
            go_wp2
            go_roundw
            case rel => exact ⟨k, by omega, by go_num, by rw [HD.out]; exact isErr_new HE.out, HB.out.alloc HB.out.size _⟩
            case measure => simp [intOf]
  · have HT : Hid (IsTail n false (.iface 27 (.int .i64 n))) := Or.inl ⟨(HN.out _ hn).1 rfl, rfl⟩
    clear HN
    go_enter Tryd.func15, Tryd.ntmps15
    go_wp2_with fail
    go_loopw [7, 8] (fun ev iv wr => ∃ k : Nat, k ≤ ps.length ∧ iv = .int .i64 ((k : Int) - 1) ∧ IsErr wr (.iface 27 (.int .i64 n)) (ps.drop k) ev ∧ Below w.heap.size w wr) (fun _ iv _ => (intOf iv + 1).toNat)
    case atStart => exact ⟨ps.length, Nat.le_refl _, rfl, by rw [List.drop_length]; rfl, Below.refl _ _⟩
    case round =>
      obtain ⟨k, hk, rfl, he, hb⟩ := hrel
      have HE : Hid (IsErr wr (.iface 27 (.int .i64 n)) (ps.drop k) u7) := he
      have HB : Hid (Below w.heap.size w wr) := hb
      have hsh : u7 = .nilIface ∨ ∃ T x, u7 = .iface T x := shape_of (by first | exact Or.inl rfl | exact Or.inr ⟨_, _, rfl⟩) he
      clear he hb
      cases k with
      | zero =>
        clear hsh
        go_wp2
        go_ret
        exact ⟨_, _, rfl, HT.out, HE.out, HB.out⟩
      | succ k =>
        obtain ⟨p, hp⟩ : ∃ p, ps[k]? = some p := ⟨ps[k], List.getElem?_eq_getElem (by omega)⟩
        have HD : Hid (ps.drop k = p :: ps.drop (k + 1)) := by
          have hg := (List.getElem?_eq_some_iff.1 hp).2
          show _ = _
          rw [List.drop_eq_getElem_cons (by omega), hg]
        obtain ⟨b, off, hao, hbl, hq0, hq1⟩ : ∃ b off, ao = some ⟨b, off, none⟩ ∧ b < w.heap.size ∧ w.cell? ⟨b, off + k * 2, none⟩ = some (.int .i64 p.1) ∧ w.cell? ⟨b, off + k * 2 + 1, none⟩ = some (.int .i64 p.2) := by
          obtain ⟨ao', cap', e, hc⟩ := HL.out
          cases e
          exact hc k p hp
        · subst hao
          have hc0 := (HB.out.cell (p := ⟨b, off + k * 2, none⟩) hbl).trans hq0
          have hc1 := (HB.out.cell (p := ⟨b, off + k * 2 + 1, none⟩) hbl).trans hq1
          have hk' : (k : Int) < ps.length := by omega
          have ek : ((k + 1 : Nat) : Int) - 1 = k := by omega
          rw [ek]
          clear hq0 hq1 hp ek
          rcases hsh with h | ⟨T, x, h⟩
          all_goals
            subst h
            go_wp2
            go_roundw
            case rel => exact ⟨k, by omega, by go_num, by rw [HD.out]; exact isErr_new HE.out, HB.out.alloc HB.out.size _⟩
            case measure => simp [intOf]
  · have HT : Hid (IsTail n true (.iface 27 (.int .i64 n))) := Or.inl ⟨(HN.out _ hn).1 rfl, rfl⟩
    clear HN
    go_enter Tryd.func15, Tryd.ntmps15
    go_wp2_with fail
    go_loopw [7, 8] (fun ev iv wr => ∃ k : Nat, k ≤ ps.length ∧ iv = .int .i64 ((k : Int) - 1) ∧ IsErr wr (.iface 27 (.int .i64 n)) (ps.drop k) ev ∧ Below w.heap.size w wr) (fun _ iv _ => (intOf iv + 1).toNat)
    case atStart => exact ⟨ps.length, Nat.le_refl _, rfl, by rw [List.drop_length]; rfl, Below.refl _ _⟩
    case round =>
      obtain ⟨k, hk, rfl, he, hb⟩ := hrel
      have HE : Hid (IsErr wr (.iface 27 (.int .i64 n)) (ps.drop k) u7) := he
      have HB : Hid (Below w.heap.size w wr) := hb
      have hsh : u7 = .nilIface ∨ ∃ T x, u7 = .iface T x := shape_of (by first | exact Or.inl rfl | exact Or.inr ⟨_, _, rfl⟩) he
      clear he hb
      cases k with
      | zero =>
        clear hsh
        go_wp2
        go_ret
        exact ⟨_, _, rfl, HT.out, HE.out, HB.out⟩
      | succ k =>
        obtain ⟨p, hp⟩ : ∃ p, ps[k]? = some p := ⟨ps[k], List.getElem?_eq_getElem (by omega)⟩
        have HD : Hid (ps.drop k = p :: ps.drop (k + 1)) := by
          have hg := (List.getElem?_eq_some_iff.1 hp).2
          show _ = _
          rw [List.drop_eq_getElem_cons (by omega), hg]
        obtain ⟨b, off, hao, hbl, hq0, hq1⟩ : ∃ b off, ao = some ⟨b, off, none⟩ ∧ b < w.heap.size ∧ w.cell? ⟨b, off + k * 2, none⟩ = some (.int .i64 p.1) ∧ w.cell? ⟨b, off + k * 2 + 1, none⟩ = some (.int .i64 p.2) := by
          obtain ⟨ao', cap', e, hc⟩ := HL.out
          cases e
          exact hc k p hp
        · subst hao
          have hc0 := (HB.out.cell (p := ⟨b, off + k * 2, none⟩) hbl).trans hq0
          have hc1 := (HB.out.cell (p := ⟨b, off + k * 2 + 1, none⟩) hbl).trans hq1
          have hk' : (k : Int) < ps.length := by omega
          have ek : ((k + 1 : Nat) : Int) - 1 = k := by omega
          rw [ek]
          clear hq0 hq1 hp ek
          rcases hsh with h | ⟨T, x, h⟩
          all_goals
            subst h
            go_wp2
            go_roundw
            case rel => exact ⟨k, by omega, by go_num, by rw [HD.out]; exact isErr_new HE.out, HB.out.alloc HB.out.size _⟩
            case measure => simp [intOf]
end Go.Proofs.YtkmbffdjgpjojabDoor
