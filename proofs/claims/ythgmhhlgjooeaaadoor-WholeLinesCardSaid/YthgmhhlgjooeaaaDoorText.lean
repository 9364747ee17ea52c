/- fault.Text over chains that end in a number or in nothing. -/
import Derived.Test.YthgmhhlgjooeaaaDoorPlaces
import Derived.Test.YthgmhhlgjooeaaaDoorWords
import Derived.Deep.RegionLaw
import Derived.Lib.SmallJoins
namespace Go.Proofs.YthgmhhlgjooeaaaDoor.F1
open Go.RowKit Go.Extern

/-- the number that a counted chain tells. -/
def codeOf : Value → Int
  | .iface 27 (.int .i64 n) => n
  | _ => 0

set_option maxHeartbeats 1000000 in
theorem code_zero (ps : List (Int × Int)) {tv : Value} (htv : tv = .nilIface ∨ ∃ n, tv = .iface 27 (.int .i64 n)) (v : Value) (w : World) (hv : IsErr w tv ps v) (hp : cutTail tv ps 64 = .nilIface) (hg : HasType w) :
    Calls Tryd.prog 13 #[v] w fun e w' => e = .returned (.int .i64 0) ∧ Below w.heap.size w w' := by
  have hb0 : Below w.heap.size w (w.alloc (.cells #[.int .i64 0] 27)) := (Below.refl _ _).alloc (Nat.le_refl _) _
  have HV : Hid (IsErr (w.alloc (.cells #[.int .i64 0] 27)) tv ps v) := hv.keep (Below.keeps hb0)
  have HG : Hid (HasType (w.alloc (.cells #[.int .i64 0] 27))) := hg.keep hb0 hg.pos
  have HP : Hid (cutTail tv ps 64 = .nilIface) := hp
  have HT : Hid (tv = .nilIface ∨ ∃ n, tv = .iface 27 (.int .i64 n)) := htv
  have hg0 : 0 < w.heap.size := hg.pos
  clear hv hg hp htv
  go_enter Tryd.func13, Tryd.ntmps13
  go_wp2_with fail
  refine (counted_calls HT.out 64 ps v _ (by omega) HV.out).mono ?_
  rintro e w1 ⟨v1, rfl, h1, hb1⟩
  rw [HP.out] at h1
  have H1 : Hid (IsErr w1 .nilIface (ps.take 64) v1) := h1
  have HG1 : Hid (HasType w1) := HG.out.keep hb1 (by simp)
  clear h1
  go_wp2_with fail
  refine (as_num_no (ps.take 64) v1 _ w1 H1.out HG1.out).mono ?_
  rintro e w2 ⟨rfl, hb2⟩
  have hB : Below w.heap.size w w2 := (hb0.trans (hb1.mono (by simp))).trans (hb2.mono (by have := hb1.size; simp at this; omega))
  go_wp2
  go_ret
  exact ⟨rfl, hB⟩

theorem code_any (ps : List (Int × Int)) {tv : Value} (htv : tv = .nilIface ∨ ∃ n, tv = .iface 27 (.int .i64 n)) (v : Value) (w : World) (hv : IsErr w tv ps v) (hg : HasType w) :
    Calls Tryd.prog 13 #[v] w fun e w' => e = .returned (.int .i64 (codeOf (cutTail tv ps 64))) ∧ Below w.heap.size w w' := by
  by_cases hp : ps.length < 64
  · rcases htv with rfl | ⟨n, rfl⟩
    · have e : cutTail .nilIface ps 64 = .nilIface := by simp [cutTail]
      rw [e]
      exact code_zero ps (Or.inl rfl) v w hv e hg
    · have e : cutTail (.iface 27 (.int .i64 n)) ps 64 = .iface 27 (.int .i64 n) := by simp [cutTail, hp]
      rw [e]
      exact code_num ps n v w hv hp hg
  · have e : cutTail tv ps 64 = .nilIface := by simp [cutTail, hp]
    rw [e]
    exact code_zero ps htv v w hv e hg

/-- a place in words. -/
def wordOf (p : Int × Int) : List UInt8 := kindBytes p.1 ++ [32] ++ Lib.itoa p.2
def wordVal (p : Int × Int) : Value := .string ⟨(wordOf p).toArray⟩
def in64 (n : Int) : Prop := -9223372036854775808 ≤ n ∧ n ≤ 9223372036854775807
theorem kind_len (k : Int) : (kindBytes k).length ≤ 5 := by
  unfold kindBytes
  repeat' split
  all_goals simp
theorem word_len (p : Int × Int) (h : in64 p.2) : (wordOf p).length ≤ 27 := by
  have h1 := kind_len p.1
  have h2 := Lib.itoa_length_le p.2 h.1 h.2
  simp [wordOf]; omega
theorem flat_get (qs : List (Int × Int)) (k : Nat) (h : k < qs.length) : (flat qs)[2 * k]? = some (.int .i64 (qs[k]).1) ∧ (flat qs)[2 * k + 1]? = some (.int .i64 (qs[k]).2) := by
  induction qs generalizing k with
  | nil => simp at h
  | cons q qs ih =>
    cases k with
    | zero => simp [flat]
    | succ k =>
      have := ih k (by simpa using h)
      have e1 : 2 * (k + 1) = 2 * k + 1 + 1 := by omega
      rw [e1]
      simp only [flat, List.getElem?_cons_succ, List.getElem_cons_succ]
      exact this
theorem flat_len (qs : List (Int × Int)) : (flat qs).length = qs.length * 2 := by
  induction qs with
  | nil => rfl
  | cons q qs ih => simp [flat, ih]; omega
end Go.Proofs.YthgmhhlgjooeaaaDoor.F1
