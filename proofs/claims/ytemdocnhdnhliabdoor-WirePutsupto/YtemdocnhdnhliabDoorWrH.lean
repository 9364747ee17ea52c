/- words: viaductref10.Words (a copy), viaductref10.SameWords of two lists that are one, wire.PutWords. -/
import Derived.Test.YtemdocnhdnhliabDoorWrF
import Derived.BigQuiet
import Derived.Deep.RegionWith
import Derived.Deep.QuietTactic
import Derived.Deep.Upon
namespace Go.Proofs.YtemdocnhdnhliabDoor
open Go.RowKit Go.Extern Cr

attribute [local go_sem] Oper.semAt_some

theorem hasW_new1 (w : World) (a : Nat) : HasW (w.alloc (.cells #[.int .u32 (a : Int)] 25)) (.slice (some ⟨w.heap.size, 0, none⟩) [a].length 1) [a] := hasW_new w [a] 1 (0, 0)
theorem take_more {l : List Nat} {i x : Nat} (h : l[i]? = some x) : l.take (i + 1) = l.take i ++ [x] := by
  rw [List.take_add_one, h]; rfl

set_option maxRecDepth 100000 in
set_option maxHeartbeats 1000000 in
theorem twinW_calls (lo : Option Addr) (lc : Nat) (l : List Nat) (w : World) (hl : HasW w (.slice lo l.length lc) l) (hm : l.length * 4 ≤ 140737488351232) :
    Calls Tryd.prog 17 #[.slice lo l.length lc] w fun e w' => ∃ mo mc, e = .returned (.slice mo l.length mc) ∧ w'.ownsRow w.heap.size 25 1 (.slice mo l.length mc) l.length (wv l) ∧ Below w.heap.size w w' := by
  have HL : Hid (HasW w (.slice lo l.length lc) l) := hl
  clear hl
  go_enter Tryd.func17, Tryd.ntmps17
  go_wp2_with fail
  go_loopw [3, 8] (fun mv nv wr => ∃ (k : Nat) (so : Option Addr) (sc : Nat), k ≤ l.length ∧ nv = .int .i64 k ∧ mv = .slice so k sc ∧ wr.ownsRow w.heap.size 25 1 (.slice so k sc) k (wv (l.take k)) ∧ Below w.heap.size w wr) (fun _ nv _ => l.length - (intOf nv).toNat)
  case atStart => exact ⟨0, none, 0, Nat.zero_le _, rfl, rfl, World.ownsRow_nil _ _ _ _, Below.refl _ _⟩
  case round =>
    obtain ⟨k, so, sc, hk, rfl, rfl, hO, hB⟩ := hrel
    have HK : Hid (wr.ownsRow w.heap.size 25 1 (.slice so k sc) k (wv (l.take k)) ∧ Below w.heap.size w wr) := ⟨hO, hB⟩
    by_cases hlt : k < l.length
    · obtain ⟨a, ha⟩ : ∃ a, l[k]? = some a := ⟨l[k], List.getElem?_eq_getElem hlt⟩
      obtain ⟨b, off, hlo, hbl, q0⟩ := HL.out.at ha
      subst hlo
      have c0 := (hB.cell (p := ⟨b, off + k, none⟩) hbl).trans q0
      have HT1 : Hid (l.take (k + 1) = l.take k ++ [a]) := take_more ha
      have hlk : (l.take k).length = k := by rw [List.length_take]; omega
      have HLK : Hid ((l.take k).length = k) := hlk
      have i1 : (k : Int) < (l.length : Int) := by omega
      have i2 : (0 : Int) ≤ (k : Int) := by omega
      clear q0 ha hO hB hlk
      go_wp2_with (at_builtin; refine wpList_append_W rfl _ _ rfl w.heap.size (.slice so k sc) (l.take k) rfl (by rw [HLK.out]; exact wown_alloc HK.out.1 _) (some ⟨wr.heap.size, 0, none⟩) 1 [a] rfl (hasW_new1 wr a) (fun e => by cases e) (by rw [HLK.out]; show (k + 1) * 4 ≤ _; omega) (by have := HK.out.2.size; simp; omega) ?_; intro v5 w5 hown5 hgr5; have H5 : Hid (w5.ownsRow w.heap.size 25 1 v5 (k + 1) (wv (l.take (k + 1))) ∧ Below w.heap.size w w5) := (by refine ⟨?_, wbelow_grown (HK.out.2.alloc HK.out.2.size _) (wown_alloc HK.out.1 _) hgr5 (by have := HK.out.2.size; simp; omega)⟩; rw [List.length_append, HLK.out] at hown5; rw [HT1.out]; exact hown5); clear hown5 hgr5; obtain ⟨po, pc, hv5⟩ := wown_slice H5.out.1; subst hv5)
      exact ⟨⟨k + 1, po, pc, by omega, by rw [show (k : Int) + 1 = ((k + 1 : Nat) : Int) by omega], rfl, H5.out.1, H5.out.2⟩, by simp only [intOf]; omega⟩
    · obtain rfl : k = l.length := by omega
      have HK2 : Hid (wr.ownsRow w.heap.size 25 1 (.slice so l.length sc) l.length (wv l) ∧ Below w.heap.size w wr) := ⟨by rw [List.take_length] at hO; exact hO, hB⟩
      clear hO hB HK
      go_wp2_with fail
      go_ret
      exact ⟨so, sc, rfl, HK2.out.1, HK2.out.2⟩

end Go.Proofs.YtemdocnhdnhliabDoor
