/- the law WireBytes, walked. -/
import Derived.Test.YtemdocnhdnhliabDoorWrF
namespace Go.Proofs.YtemdocnhdnhliabDoor
open Go.RowKit Go.Extern Cr

attribute [local go_sem] Oper.semAt_some

/-- a copy, and what is known of it. -/
theorem twin18 {w wx : World} {lo : Option Addr} {lc : Nat} {l : List Nat} (h : HasB w (.slice lo l.length lc) l) (hx : Below w.heap.size w wx) (hm : l.length ≤ 140737488355328) (hc : lo = none → lc = 0) :
    Calls Tryd.prog 13 #[.slice lo l.length lc] wx fun e w' => ∃ mo mc, e = .returned (.slice mo l.length mc) ∧ (HasB w' (.slice mo l.length mc) l ∧ l.length ≤ mc ∧ (mo = none → mc = 0)) ∧ Below w.heap.size w w' := by
  refine (kTwin_calls lo lc l wx (h.keep hx) hm hc).mono ?_
  rintro e w' ⟨mo, mc, rfl, ho, hb⟩
  exact ⟨mo, mc, rfl, ⟨hasB_own ho, own_cap' ho⟩, hx.trans (hb.mono hx.size)⟩
theorem piece_cons {l : List Nat} {a k x : Nat} (hx : l[a]? = some x) : piece l a (k + 1) = x :: piece l (a + 1) k := by
  unfold piece
  have hlt := (List.getElem?_eq_some_iff.1 hx).1
  have e : l.drop a = x :: l.drop (a + 1) := by
    rw [List.drop_eq_getElem_cons hlt]
    congr 1
    exact (List.getElem?_eq_some_iff.1 hx).2
  rw [e]
  rfl
/-- Take where it is right. -/
theorem take_good {lo : Option Addr} {lc : Nat} {l : List Nat} {a k : Nat} {w w0 : World} (hx : Below w0.heap.size w0 w) (hl : HasB w (.slice lo l.length lc) l) (hb : Bts l) (hm : l.length ≤ 140737488355328) (hc : l.length ≤ lc) (h1 : 1 ≤ k) (h8 : k ≤ 8) (h : a + k ≤ l.length) {p : List Nat} (hp : p = piece l a k) :
    Calls Tryd.prog 21 #[.slice lo l.length lc, .int .i64 (a : Int), .int .i64 (k : Int)] w fun e w' => e = .returned (.tuple #[.int .u64 ((num p : Nat) : Int), .nilIface]) ∧ Below w0.heap.size w0 w' := by
  subst hp
  refine (take_calls lo lc l (a : Int) (k : Int) w hl hb hm hc (by omega)).mono ?_
  rintro e w' ⟨hb', ⟨_, _, _, _, he⟩ | ⟨h', _⟩⟩
  · exact ⟨he, hx.trans (hb'.mono hx.size)⟩
  · omega

end Go.Proofs.YtemdocnhdnhliabDoor
