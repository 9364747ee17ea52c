/- what an image's words are; image's reader where all is right. (Printed by geniif.py.) image's reader.links where all is right. (Printed by geniig.py.) image's hierOf where all is right. (Printed by geniih.py.) image's Decode where all is right. (Printed by geniii.py.) viaductlaw19's awake and great. (Printed by geniij.py.) Twin, told with rows of its own. (From HgA's and HdO's texts.) the law ImageEncodes. (Printed by geniik.py.) -/
import Derived.Test.YtamedcnjanichabGreatDoorIiX
import Derived.Test.YtamedcnjanichabGreatDoorWrX
import Derived.Deep.QuietTactic
import Derived.BigQuiet
import Derived.Test.YtamedcnjanichabGreatDoorHrQ
import Derived.Test.YtamedcnjanichabGreatDoorHsF
import Derived.Defers
import Derived.Recover
import Derived.Laws.Pointers
import Derived.Test.YtamedcnjanichabGreatDoorHrU
import Derived.Test.YtamedcnjanichabGreatDoorHrZ
import Derived.Test.YtamedcnjanichabGreatDoorCrX
import Derived.Deep.RegionHeld3
import Derived.Test.YtamedcnjanichabGreatDoorHsB
import Derived.Test.YtamedcnjanichabGreatDoorSeen
namespace Go.Proofs.YtamedcnjanichabGreatDoor
open Go.RowKit Go.Extern Cr

attribute [local go_sem] Oper.semAt_some

theorem piece_mid (a b c : List Nat) (k n : Nat) (h : k + n ≤ b.length) : piece (a ++ b ++ c) (a.length + k) n = piece b k n := by
  unfold piece
  rw [List.append_assoc, ← List.drop_drop, List.drop_left, List.drop_append_of_le_length (by omega), List.take_append_of_le_length (by rw [List.length_drop]; omega)]
theorem wordsOf_im (h : Hi.Hr) (i c : Nat) (hic : i + c ≤ (imW h).length) (hok : ∀ x ∈ imW h, x < 4294967296) : wordsOf (imB h) (8 + 4 * i) c = ((imW h).drop i).take c := by
  apply List.ext_getElem?
  intro j
  unfold wordsOf
  rw [List.getElem?_map]
  by_cases hj : j < c
  · obtain ⟨x, hx⟩ : ∃ x, (imW h)[i + j]? = some x := ⟨(imW h)[i + j]'(by omega), List.getElem?_eq_getElem (by omega)⟩
    rw [List.getElem?_range hj, List.getElem?_take, if_pos hj, List.getElem?_drop, hx]
    have e1 : imB h = head8 ++ bytesOf (imW h) ++ le4 (upd 0 (imP h)) := rfl
    have e2 : piece (imB h) (8 + 4 * i + 4 * j) 4 = leN x 4 := by
      rw [e1, show 8 + 4 * i + 4 * j = head8.length + 4 * (i + j) by show _ = 8 + _; omega, piece_mid _ _ _ _ _ (by rw [bytesOf_len]; omega)]
      exact bytesOf_piece (imW h) (i + j) x hx
    have e3 : num (leN x 4) = x := by
      rw [leN_num]
      exact Nat.mod_eq_of_lt (hok x (List.mem_of_getElem? hx))
    show some (num (piece (imB h) (8 + 4 * i + 4 * j) 4)) = some x
    rw [e2, e3]
  · rw [List.getElem?_take, if_neg hj, List.getElem?_eq_none (by simp; omega)]
    rfl
/-- bytes that are an image of these counts and lists. -/
structure ImgOk (l : List Nat) (h : Hi.Hr) : Prop where
  len : l.length = 32 + 12 * h.node.length + 20 * (h.up.length + h.dn.length)
  bts : Bts l
  fit : fits l = true
  hd : ∀ i x : Nat, head8[i]? = some x → l[i]? = some x
  sm : SmallH h
  w0 : wordsOf l 8 1 = [h.node.length]
  w1 : wordsOf l 12 1 = [h.up.length]
  w2 : wordsOf l 16 1 = [h.dn.length]
  nd : wordsOf l 20 h.node.length = h.node
  uf : wordsOf l (20 + 4 * h.node.length) (h.node.length + 1) = h.upF
  up : wordsOf l (20 + 4 * h.node.length + 4 * (h.node.length + 1)) (5 * h.up.length) = lksW h.up
  df : wordsOf l (20 + 4 * h.node.length + 4 * (h.node.length + 1) + 4 * (5 * h.up.length)) (h.node.length + 1) = h.dnF
  dn : wordsOf l (20 + 4 * h.node.length + 4 * (h.node.length + 1) + 4 * (5 * h.up.length) + 4 * (h.node.length + 1)) (5 * h.dn.length) = lksW h.dn
theorem take_mid (a b c : List Nat) (n m : Nat) (hn : n = a.length) (hm : m = b.length) : ((a ++ (b ++ c)).drop n).take m = b := by
  subst hn hm
  rw [List.drop_left, List.take_left]
theorem imB_ok {h : Hi.Hr} (hs : SmallH h) (hok : ∀ x ∈ imW h, x < 4294967296) : ImgOk (imB h) h := by
  have hl := imW_len h
  have hu := hs.uf
  have hd := hs.df
  have hA : imW h = [h.node.length, h.up.length, h.dn.length] ++ (h.node ++ (h.upF ++ (lksW h.up ++ (h.dnF ++ lksW h.dn)))) := by unfold imW; simp only [List.append_assoc]
  have lu := lksW_len h.up
  have ld := lksW_len h.dn
  refine ⟨?_, seal_bts (imP_bts h), seal_fits (imP_bts h), fun i x hx => ?_, hs, ?_, ?_, ?_, ?_, ?_, ?_, ?_, ?_⟩
  · show (sealOf (imP h)).length = _
    rw [seal_len, imP_len, hl]
    omega
  · have e1 : imB h = head8 ++ (bytesOf (imW h) ++ le4 (upd 0 (imP h))) := by rw [← List.append_assoc]; rfl
    have hlt := (List.getElem?_eq_some_iff.1 hx).1
    rw [e1, List.getElem?_append_left hlt]
    exact hx
  · have q := wordsOf_im h 0 1 (by omega) hok
    rw [show 8 + 4 * 0 = 8 from rfl] at q
    rw [q, hA]
    rfl
  · have q := wordsOf_im h 1 1 (by omega) hok
    rw [show 8 + 4 * 1 = 12 from rfl] at q
    rw [q, hA]
    rfl
  · have q := wordsOf_im h 2 1 (by omega) hok
    rw [show 8 + 4 * 2 = 16 from rfl] at q
    rw [q, hA]
    rfl
  · have q := wordsOf_im h 3 h.node.length (by omega) hok
    rw [show 8 + 4 * 3 = 20 from rfl] at q
    rw [q, hA]
    exact take_mid _ _ _ _ _ rfl rfl
  · have q := wordsOf_im h (3 + h.node.length) (h.node.length + 1) (by omega) hok
    rw [show 8 + 4 * (3 + h.node.length) = 20 + 4 * h.node.length by omega] at q
    rw [q, hA, ← List.append_assoc]
    exact take_mid _ _ _ _ _ (by simp only [List.length_append, List.length_cons, List.length_nil] <;> omega) hu.symm
  · have q := wordsOf_im h (3 + h.node.length + h.upF.length) (5 * h.up.length) (by omega) hok
    rw [show 8 + 4 * (3 + h.node.length + h.upF.length) = 20 + 4 * h.node.length + 4 * (h.node.length + 1) by omega] at q
    rw [q, hA, ← List.append_assoc, ← List.append_assoc]
    exact take_mid _ _ _ _ _ (by simp only [List.length_append, List.length_cons, List.length_nil] <;> omega) lu.symm
  · have q := wordsOf_im h (3 + h.node.length + h.upF.length + 5 * h.up.length) (h.node.length + 1) (by omega) hok
    rw [show 8 + 4 * (3 + h.node.length + h.upF.length + 5 * h.up.length) = 20 + 4 * h.node.length + 4 * (h.node.length + 1) + 4 * (5 * h.up.length) by omega] at q
    rw [q, hA, ← List.append_assoc, ← List.append_assoc, ← List.append_assoc]
    exact take_mid _ _ _ _ _ (by simp only [List.length_append, lu, List.length_cons, List.length_nil] <;> omega) hd.symm
  · have q := wordsOf_im h (3 + h.node.length + h.upF.length + 5 * h.up.length + h.dnF.length) (5 * h.dn.length) (by omega) hok
    rw [show 8 + 4 * (3 + h.node.length + h.upF.length + 5 * h.up.length + h.dnF.length) = 20 + 4 * h.node.length + 4 * (h.node.length + 1) + 4 * (5 * h.up.length) + 4 * (h.node.length + 1) by omega] at q
    rw [q, hA, ← List.append_assoc, ← List.append_assoc, ← List.append_assoc, ← List.append_assoc]
    have q2 := take_mid ([h.node.length, h.up.length, h.dn.length] ++ h.node ++ h.upF ++ lksW h.up ++ h.dnF) (lksW h.dn) [] (3 + h.node.length + h.upF.length + 5 * h.up.length + h.dnF.length) (5 * h.dn.length) (by simp only [List.length_append, lu, List.length_cons, List.length_nil]) ld.symm
    rw [List.append_nil] at q2
    exact q2
/-- what a reader's method leaves: its place moved, all else as it was. -/
structure RdTo (w w' : World) (rb : Nat) (lo : Option Addr) (n lc : Nat) (a : Int) : Prop where
  box : w'.heap[rb]? = some (.cells #[.slice lo n lc, .int .i64 a] 79 (0, 0))
  far : ∀ j, j < w.heap.size → j ≠ rb → w'.heap[j]? = w.heap[j]?
  bel : Below rb w w'
theorem rdTo_set {w w1 : World} {rb : Nat} {lo : Option Addr} {n lc : Nat} {a0 a : Int} (hr : w.heap[rb]? = some (.cells #[.slice lo n lc, .int .i64 a0] 79 (0, 0))) (hb : Below w.heap.size w w1) : RdTo w (w1.setCell ⟨rb, 1, none⟩ (.int .i64 a)) rb lo n lc a := by
  have q := (hb.block _ (w_lt_get hr)).trans hr
  have hlt := w_lt_get hr
  refine ⟨?_, fun j h1 h2 => ?_, (hb.mono (show rb ≤ w.heap.size by omega)).setCell (p := ⟨rb, 1, none⟩) (show rb ≤ rb from Nat.le_refl _) _⟩
  · rw [heap_setCell_same w1 rb 1 _ 79 (.int .i64 a) q]
    rfl
  · have e : (w1.setCell ⟨rb, 1, none⟩ (.int .i64 a)).heap[j]? = w1.heap[j]? := by
      first | exact heap_setCell_other _ _ _ _ h2 | exact heap_setCell_other _ _ _ _ h2.symm
    rw [e]
    exact hb.block j h1
theorem rdTo_row {w1 : World} {rb B e size m : Nat} {v x : Value} {xs : List Value} (h : w1.ownsRow B e size v m xs) (hrb : rb < B) : (w1.setCell ⟨rb, 1, none⟩ x).ownsRow B e size v m xs := by
  obtain ⟨h1, h2⟩ := h
  refine ⟨h1, ?_⟩
  rcases h2 with h2 | ⟨g, cap, cur, e, hb, hh, r⟩
  · exact Or.inl h2
  · have hne : g ≠ rb := by omega
    have e2 : (w1.setCell ⟨rb, 1, none⟩ x).heap[g]? = w1.heap[g]? := by
      first | exact heap_setCell_other _ _ _ _ hne | exact heap_setCell_other _ _ _ _ hne.symm
    exact Or.inr ⟨g, cap, cur, e, hb, e2.trans hh, r⟩

set_option maxRecDepth 100000 in
set_option maxHeartbeats 2000000 in
theorem rWords_far (rb a c : Nat) (lo : Option Addr) (lc : Nat) (l : List Nat) (w : World) (hr : w.heap[rb]? = some (.cells #[.slice lo l.length lc, .int .i64 (a : Int)] 79 (0, 0))) (hl : HasB w (.slice lo l.length lc) l) (hb : Bts l) (hm : l.length ≤ 281474976710656) (hcap : l.length ≤ lc) (hfit : a + 4 * c ≤ l.length) (hab : a ≤ 1073741824 ∧ c ≤ 1073741824) :
    Calls Tryz.prog 42 #[.pointer (some ⟨rb, 0, none⟩), .int .i64 (c : Int)] w fun e w' => ∃ mo mc, e = .returned (.slice mo c mc) ∧ RdTo w w' rb lo l.length lc ((a : Int) + 4 * (c : Int)) ∧ w'.ownsRow w.heap.size 39 1 (.slice mo c mc) c (wv (wordsOf l a c)) := by
  have HRR : Hid (w.heap[rb]? = some (.cells #[.slice lo l.length lc, .int .i64 (a : Int)] 79 (0, 0))) := hr
  have HW : Hid (∀ wx, Below w.heap.size w wx → Calls Tryz.prog 71 #[.slice lo l.length lc, .int .i64 (a : Int), .int .i64 (c : Int)] wx fun e w' => ∃ mo mc, e = .returned (.tuple #[.slice mo c mc, .nilIface]) ∧ w'.ownsRow wx.heap.size 39 1 (.slice mo c mc) c (wv (wordsOf l a c)) ∧ Below wx.heap.size wx w') := fun wx hx => by
    refine (words_calls lo lc l (a : Int) (c : Int) wx (hl.keep hx) hb (by omega) hcap (by omega) (Or.inl (by omega))).mono ?_
    rintro e w' ⟨hbw, ⟨_, _, _, mo, mc, rfl, ho⟩ | ⟨h1, _⟩⟩
    · simp only [Int.toNat_natCast] at ho ⊢
      exact ⟨mo, mc, rfl, ho, hbw⟩
    · omega
  have HR : Hid (∀ wx, Below w.heap.size w wx → (wx.cell? ⟨rb, 0, none⟩ = some (.slice lo l.length lc) ∧ wx.cell? ⟨rb, 1, none⟩ = some (.int .i64 (a : Int))) ∧ wx.frozen? ⟨rb, 1, none⟩ = false ∧ rb < wx.heap.size) := fun wx hx => by
    have q := (hx.block _ (w_lt_get hr)).trans hr
    obtain ⟨q0, q1, q2, q3⟩ := cell2I q
    exact ⟨⟨q0, q1⟩, q3, w_lt_get q⟩
  obtain ⟨⟨c0, c1⟩, f1, l1⟩ := HR.out w (Below.refl _ _)
  obtain ⟨ha9, hc9⟩ := hab
  clear hr hl hb
  go_enter Tryz.func42, Tryz.ntmps42
  go_upto_region 1 with fail
  go_region_held3 (fun w' => w'.cell? ⟨rb, 0, none⟩ = some (.slice lo l.length lc) ∧ w'.cell? ⟨rb, 1, none⟩ = some (.int .i64 (a : Int))) (go_keep) (first
    | (go_at_call 71; refine (HW.out _ (Below.refl _ _).drew).mono ?_; rintro e y1 ⟨mo, mc, rfl, ho, hb⟩; have Y1 : Hid (Below w.heap.size w y1 ∧ y1.ownsRow w.heap.size 39 1 (.slice mo c mc) c (wv (wordsOf l a c))) := ⟨btrI (Below.refl _ _).drew hb, ho⟩; clear c0 c1 f1 l1; obtain ⟨⟨c0, c1⟩, f1, l1⟩ := HR.out y1 Y1.out.1; clear ho hb))
  go_wp2
  go_ret
  exact ⟨mo, mc, rfl, rdTo_set HRR.out Y1.out.1, rdTo_row Y1.out.2 (w_lt_get HRR.out)⟩
theorem rWords_good (rb a c : Nat) (lo : Option Addr) (lc : Nat) (l : List Nat) (w : World) (hr : w.heap[rb]? = some (.cells #[.slice lo l.length lc, .int .i64 (a : Int)] 79 (0, 0))) (hl : HasB w (.slice lo l.length lc) l) (hb : Bts l) (hm : l.length ≤ 1073741824) (hcap : l.length ≤ lc) (hfit : a + 4 * c ≤ l.length) :
    Calls Tryz.prog 42 #[.pointer (some ⟨rb, 0, none⟩), .int .i64 (c : Int)] w fun e w' => ∃ mo mc, e = .returned (.slice mo c mc) ∧ RdTo w w' rb lo l.length lc ((a : Int) + 4 * (c : Int)) ∧ w'.ownsRow w.heap.size 39 1 (.slice mo c mc) c (wv (wordsOf l a c)) :=
  rWords_far rb a c lo lc l w hr hl hb (by omega) hcap hfit (by omega)
theorem reach_good (rb : Nat) (lo : Option Addr) (lc n m : Nat) (a : Int) (w : World) (hr : w.heap[rb]? = some (.cells #[.slice lo n lc, .int .i64 a] 79 (0, 0))) (hn : m ≤ n) :
    Calls Tryz.prog 37 #[.pointer (some ⟨rb, 0, none⟩), .int .i64 (m : Int)] w fun e w' => e = .returned (.tuple #[]) ∧ w' = w := by
  obtain ⟨c0, c1, _, _⟩ := cell2I hr
  have l1 := w_lt_get hr
  have d1 : decide ((n : Int) < (m : Int)) = false := decide_eq_false (by omega)
  have d2 : decide (n < m) = false := decide_eq_false (by omega)
  clear hr
  go_enter Tryz.func37, Tryz.ntmps37
  go_wp2
  go_end0
  exact ⟨rfl, rfl⟩

set_option maxRecDepth 100000 in
set_option maxHeartbeats 2000000 in
theorem end_good (rb : Nat) (lo : Option Addr) (lc : Nat) (l : List Nat) (a : Int) (w : World) (hr : w.heap[rb]? = some (.cells #[.slice lo l.length lc, .int .i64 a] 79 (0, 0))) (hl : HasB w (.slice lo l.length lc) l) (hb : Bts l) (hm : l.length ≤ 1073741824) (hcap : l.length ≤ lc) (hfit : fits l = true) (hf : HasFours w) (hg : 1 < w.heap.size) :
    Calls Tryz.prog 40 #[.pointer (some ⟨rb, 0, none⟩), .int .i64 (l.length : Int)] w fun e w' => e = .returned (.tuple #[]) ∧ Below w.heap.size w w' := by
  have HRE : Hid (type_of% (reach_good rb lo lc l.length l.length a w hr (Nat.le_refl _))) := reach_good rb lo lc l.length l.length a w hr (Nat.le_refl _)
  have HFT : Hid (Calls Tryz.prog 70 #[.slice lo l.length lc] w fun e w' => e = .returned (.bool true) ∧ Below w.heap.size w w') := by
    have q := cFits_calls lo lc l w hf hg hl hb (by omega) hcap
    rw [hfit] at q
    exact q
  obtain ⟨c0, c1, _, _⟩ := cell2I hr
  have l1 := w_lt_get hr
  generalize l.length = n at *
  clear hr hl hb hf
  go_enter Tryz.func40, Tryz.ntmps40
  go_wp2_with fail
  refine HRE.out.mono ?_
  rintro e y ⟨rfl, hy⟩
  have hy' := hy.symm
  clear hy
  subst hy'
  go_wp2_with fail
  refine HFT.out.mono ?_
  rintro e y1 ⟨rfl, hb1⟩
  have Y1 : Hid (Below w.heap.size w y1) := hb1
  clear hb1
  go_wp2
  go_end0
  exact ⟨rfl, Y1.out⟩
theorem row_one {w : World} {B : Nat} {v : Value} {x : Nat} (h : w.ownsRow B 39 1 v 1 (wv [x])) : ∃ g cap, v = .slice (some ⟨g, 0, none⟩) 1 cap ∧ g < w.heap.size ∧ w.cell? ⟨g, 0, none⟩ = some (.int .u32 (x : Int)) := by
  rcases h.2 with ⟨_, h0⟩ | ⟨g, cap, cur, rfl, hg, hh, _⟩
  · cases h0
  · exact ⟨g, cap, rfl, w_lt_get hh, (h.cellAt 0 (by omega)).trans rfl⟩

set_option maxRecDepth 100000 in
set_option maxHeartbeats 2000000 in
theorem count_good (rb a x most : Nat) (lo : Option Addr) (lc : Nat) (l : List Nat) (w : World) (hr : w.heap[rb]? = some (.cells #[.slice lo l.length lc, .int .i64 (a : Int)] 79 (0, 0))) (hl : HasB w (.slice lo l.length lc) l) (hb : Bts l) (hm : l.length ≤ 281474976710656) (hcap : l.length ≤ lc) (hfit : a + 4 * 1 ≤ l.length) (hx : wordsOf l a 1 = [x]) (hxm : x ≤ most) (hmm : most ≤ 1048576) (ha9 : a ≤ 1073741824) :
    Calls Tryz.prog 39 #[.pointer (some ⟨rb, 0, none⟩), .int .i64 (most : Int)] w fun e w' => e = .returned (.int .i64 (x : Int)) ∧ RdTo w w' rb lo l.length lc ((a : Int) + 4 * 1) := by
  have HW : Hid (Calls Tryz.prog 42 #[.pointer (some ⟨rb, 0, none⟩), .int .i64 1] w fun e w' => ∃ g cap, e = .returned (.slice (some ⟨g, 0, none⟩) 1 cap) ∧ RdTo w w' rb lo l.length lc ((a : Int) + 4 * 1) ∧ g < w'.heap.size ∧ w'.cell? ⟨g, 0, none⟩ = some (.int .u32 (x : Int))) := by
    refine (rWords_far rb a 1 lo lc l w hr hl hb hm hcap hfit ⟨ha9, by decide⟩).mono ?_
    rintro e w' ⟨mo, mc, rfl, h1, h2⟩
    rw [hx] at h2
    obtain ⟨g, cap, e, h3, h4⟩ := row_one h2
    injection e with e1 e2 e3
    subst e1 e3
    exact ⟨g, mc, rfl, h1, h3, h4⟩
  obtain ⟨c0, c1, _, _⟩ := cell2I hr
  have l1 := w_lt_get hr
  have d1 : decide ((most : Int) < (x : Int)) = false := decide_eq_false (by omega)
  have d2 : decide (most < x) = false := decide_eq_false (by omega)
  clear hr hl hb hx
  go_enter Tryz.func39, Tryz.ntmps39
  go_wp2_with fail
  refine HW.out.mono ?_
  rintro e y ⟨g, cap, rfl, hrd, hg, hc⟩
  have Y : Hid (RdTo w y rb lo l.length lc ((a : Int) + 4 * 1)) := hrd
  clear hrd c0 c1 l1
  go_wp2
  go_ret
  exact ⟨rfl, Y.out⟩

set_option maxRecDepth 100000 in
set_option maxHeartbeats 4000000 in
theorem sign_magic (rb : Nat) (lo : Option Addr) (lc : Nat) (l : List Nat) (ec : Int) (w : World) (hr : w.heap[rb]? = some (.cells #[.slice lo l.length lc, .int .i64 0] 79 (0, 0))) (hl : HasB w (.slice lo l.length lc) l) (hlen : 8 ≤ l.length) (hhd : ∀ i x : Nat, head8[i]? = some x → l[i]? = some x) :
    Calls Tryz.prog 38 #[.pointer (some ⟨rb, 0, none⟩), .string { data := #[86, 68, 67, 84] }, .int .i64 ec] w fun e w' => e = .returned (.tuple #[]) ∧ RdTo w w' rb lo l.length lc 4 := by
  have HRR : Hid (w.heap[rb]? = some (.cells #[.slice lo l.length lc, .int .i64 0] 79 (0, 0))) := hr
  have HR : Hid (∀ wx, Below w.heap.size w wx → (wx.cell? ⟨rb, 0, none⟩ = some (.slice lo l.length lc) ∧ wx.cell? ⟨rb, 1, none⟩ = some (.int .i64 0)) ∧ wx.frozen? ⟨rb, 1, none⟩ = false ∧ rb < wx.heap.size ∧ HasB wx (.slice lo l.length lc) l) := fun wx hx => by
    have q := (hx.block _ (w_lt_get hr)).trans hr
    obtain ⟨q0, q1, q2, q3⟩ := cell2I q
    exact ⟨⟨q0, q1⟩, q3, w_lt_get q, hl.keep hx⟩
  have HH : Hid (∀ i x : Nat, head8[i]? = some x → l[i]? = some x) := hhd
  clear hr hl hhd
  go_enter Tryz.func38, Tryz.ntmps38
  go_wp2_with fail
  go_loopw [9] (fun iv wr => ∃ k : Nat, k ≤ 4 ∧ iv = .int .i64 (k : Nat) ∧ Below w.heap.size w wr) (fun iv _ => 4 - (intOf iv).toNat)
  case atStart => exact ⟨0, by omega, rfl, Below.refl _ _⟩
  case round =>
    obtain ⟨k, hk, rfl, hbw⟩ := hrel
    have HB : Hid (Below w.heap.size w wr) := hbw
    obtain ⟨⟨c0, c1⟩, f1, l1, hlx⟩ := HR.out wr hbw
    clear hbw
    rcases (show k = 0 ∨ k = 1 ∨ k = 2 ∨ k = 3 ∨ k = 4 by omega) with rfl | rfl | rfl | rfl | rfl
    · obtain ⟨b, off, rfl, bl, p0⟩ := hlx.at (HH.out 0 86 rfl)
      obtain ⟨a0, ha0⟩ : ∃ a0 : Nat, 0 = a0 := ⟨0, rfl⟩
      have c1' : wr.cell? ⟨rb, 1, none⟩ = some (.int .i64 (a0 : Int)) := by rw [← ha0]; exact c1
      have p0' : wr.cell? ⟨b, off + a0, none⟩ = some (.int .u8 86) := by rw [← ha0]; exact p0
      have i1 : (a0 : Int) < (l.length : Int) := by omega
      have i2 : a0 ≤ 4 := by omega
      clear hlx c1 p0 ha0
      go_wp2_with fail
      go_quiet (fail)
      have HBQ : Hid (Below w.heap.size w (wr.drewN nq)) := HB.out.trans ⟨rfl, rfl, rfl, Nat.le_refl _, fun _ _ => rfl⟩
      go_wp2
      go_roundw
      case rel => exact ⟨1, by omega, by go_num, HBQ.out⟩
      case measure => simp [intOf]
    · obtain ⟨b, off, rfl, bl, p0⟩ := hlx.at (HH.out 1 68 rfl)
      have i1 : (1 : Int) < (l.length : Int) := by omega
      clear hlx
      go_wp2_with fail
      go_quiet (fail)
      have HBQ : Hid (Below w.heap.size w (wr.drewN nq)) := HB.out.trans ⟨rfl, rfl, rfl, Nat.le_refl _, fun _ _ => rfl⟩
      go_wp2
      go_roundw
      case rel => exact ⟨2, by omega, by go_num, HBQ.out⟩
      case measure => simp [intOf]
    · obtain ⟨b, off, rfl, bl, p0⟩ := hlx.at (HH.out 2 67 rfl)
      have i1 : (2 : Int) < (l.length : Int) := by omega
      clear hlx
      go_wp2_with fail
      go_quiet (fail)
      have HBQ : Hid (Below w.heap.size w (wr.drewN nq)) := HB.out.trans ⟨rfl, rfl, rfl, Nat.le_refl _, fun _ _ => rfl⟩
      go_wp2
      go_roundw
      case rel => exact ⟨3, by omega, by go_num, HBQ.out⟩
      case measure => simp [intOf]
    · obtain ⟨b, off, rfl, bl, p0⟩ := hlx.at (HH.out 3 84 rfl)
      have i1 : (3 : Int) < (l.length : Int) := by omega
      clear hlx
      go_wp2_with fail
      go_quiet (fail)
      have HBQ : Hid (Below w.heap.size w (wr.drewN nq)) := HB.out.trans ⟨rfl, rfl, rfl, Nat.le_refl _, fun _ _ => rfl⟩
      go_wp2
      go_roundw
      case rel => exact ⟨4, by omega, by go_num, HBQ.out⟩
      case measure => simp [intOf]
    · clear hlx
      have HQ : Hid (RdTo w (wr.setCell ⟨rb, 1, none⟩ (.int .i64 4)) rb lo l.length lc 4) := rdTo_set HRR.out HB.out
      go_wp2
      go_end0
      exact ⟨rfl, HQ.out⟩

set_option maxRecDepth 100000 in
set_option maxHeartbeats 4000000 in
theorem sign_version (rb : Nat) (lo : Option Addr) (lc : Nat) (l : List Nat) (ec : Int) (w : World) (hr : w.heap[rb]? = some (.cells #[.slice lo l.length lc, .int .i64 4] 79 (0, 0))) (hl : HasB w (.slice lo l.length lc) l) (hlen : 8 ≤ l.length) (hhd : ∀ i x : Nat, head8[i]? = some x → l[i]? = some x) :
    Calls Tryz.prog 38 #[.pointer (some ⟨rb, 0, none⟩), .string { data := #[1, 0, 0, 0] }, .int .i64 ec] w fun e w' => e = .returned (.tuple #[]) ∧ RdTo w w' rb lo l.length lc 8 := by
  have HRR : Hid (w.heap[rb]? = some (.cells #[.slice lo l.length lc, .int .i64 4] 79 (0, 0))) := hr
  have HR : Hid (∀ wx, Below w.heap.size w wx → (wx.cell? ⟨rb, 0, none⟩ = some (.slice lo l.length lc) ∧ wx.cell? ⟨rb, 1, none⟩ = some (.int .i64 4)) ∧ wx.frozen? ⟨rb, 1, none⟩ = false ∧ rb < wx.heap.size ∧ HasB wx (.slice lo l.length lc) l) := fun wx hx => by
    have q := (hx.block _ (w_lt_get hr)).trans hr
    obtain ⟨q0, q1, q2, q3⟩ := cell2I q
    exact ⟨⟨q0, q1⟩, q3, w_lt_get q, hl.keep hx⟩
  have HH : Hid (∀ i x : Nat, head8[i]? = some x → l[i]? = some x) := hhd
  clear hr hl hhd
  go_enter Tryz.func38, Tryz.ntmps38
  go_wp2_with fail
  go_loopw [9] (fun iv wr => ∃ k : Nat, k ≤ 4 ∧ iv = .int .i64 (k : Nat) ∧ Below w.heap.size w wr) (fun iv _ => 4 - (intOf iv).toNat)
  case atStart => exact ⟨0, by omega, rfl, Below.refl _ _⟩
  case round =>
    obtain ⟨k, hk, rfl, hbw⟩ := hrel
    have HB : Hid (Below w.heap.size w wr) := hbw
    obtain ⟨⟨c0, c1⟩, f1, l1, hlx⟩ := HR.out wr hbw
    clear hbw
    rcases (show k = 0 ∨ k = 1 ∨ k = 2 ∨ k = 3 ∨ k = 4 by omega) with rfl | rfl | rfl | rfl | rfl
    · obtain ⟨b, off, rfl, bl, p0⟩ := hlx.at (HH.out 4 1 rfl)
      have i1 : (4 : Int) < (l.length : Int) := by omega
      clear hlx
      go_wp2_with fail
      go_quiet (fail)
      have HBQ : Hid (Below w.heap.size w (wr.drewN nq)) := HB.out.trans ⟨rfl, rfl, rfl, Nat.le_refl _, fun _ _ => rfl⟩
      go_wp2
      go_roundw
      case rel => exact ⟨1, by omega, by go_num, HBQ.out⟩
      case measure => simp [intOf]
    · obtain ⟨b, off, rfl, bl, p0⟩ := hlx.at (HH.out 5 0 rfl)
      have i1 : (5 : Int) < (l.length : Int) := by omega
      clear hlx
      go_wp2_with fail
      go_quiet (fail)
      have HBQ : Hid (Below w.heap.size w (wr.drewN nq)) := HB.out.trans ⟨rfl, rfl, rfl, Nat.le_refl _, fun _ _ => rfl⟩
      go_wp2
      go_roundw
      case rel => exact ⟨2, by omega, by go_num, HBQ.out⟩
      case measure => simp [intOf]
    · obtain ⟨b, off, rfl, bl, p0⟩ := hlx.at (HH.out 6 0 rfl)
      have i1 : (6 : Int) < (l.length : Int) := by omega
      clear hlx
      go_wp2_with fail
      go_quiet (fail)
      have HBQ : Hid (Below w.heap.size w (wr.drewN nq)) := HB.out.trans ⟨rfl, rfl, rfl, Nat.le_refl _, fun _ _ => rfl⟩
      go_wp2
      go_roundw
      case rel => exact ⟨3, by omega, by go_num, HBQ.out⟩
      case measure => simp [intOf]
    · obtain ⟨b, off, rfl, bl, p0⟩ := hlx.at (HH.out 7 0 rfl)
      have i1 : (7 : Int) < (l.length : Int) := by omega
      clear hlx
      go_wp2_with fail
      go_quiet (fail)
      have HBQ : Hid (Below w.heap.size w (wr.drewN nq)) := HB.out.trans ⟨rfl, rfl, rfl, Nat.le_refl _, fun _ _ => rfl⟩
      go_wp2
      go_roundw
      case rel => exact ⟨4, by omega, by go_num, HBQ.out⟩
      case measure => simp [intOf]
    · clear hlx
      have HQ : Hid (RdTo w (wr.setCell ⟨rb, 1, none⟩ (.int .i64 8)) rb lo l.length lc 8) := rdTo_set HRR.out HB.out
      go_wp2
      go_end0
      exact ⟨rfl, HQ.out⟩
end Go.Proofs.YtamedcnjanichabGreatDoor

namespace Go.Proofs.YtamedcnjanichabGreatDoor
open Go.RowKit Go.Extern Cr

attribute [local go_sem] Oper.semAt_some

theorem lksW_get : ∀ (l : List Hi.Lk) (k : Nat) (a : Hi.Lk), l[k]? = some a → ∀ i, i < 5 → (lksW l)[5 * k + i]? = (lkW a)[i]?
  | [], _, _, h, _, _ => by simp at h
  | b :: r, 0, a, h, i, hi => by
    simp at h
    subst h
    have e : lksW (b :: r) = lkW b ++ lksW r := by simp [lksW]
    rw [e, List.getElem?_append_left (by simp [lkW]; omega), Nat.mul_zero, Nat.zero_add]
  | b :: r, k + 1, a, h, i, hi => by
    have e : lksW (b :: r) = lkW b ++ lksW r := by simp [lksW]
    have hl : (lkW b).length = 5 := rfl
    rw [e, List.getElem?_append_right (by omega), hl, show 5 * (k + 1) + i - 5 = 5 * k + i by omega]
    exact lksW_get r k a (by simpa using h) i hi
theorem or_half {x y : Nat} (hx : x < 4294967296) (hy : y < 4294967296) : bits .or .u64 ((x : Int) * 4294967296) (y : Int) = ((y + 4294967296 * x : Nat) : Int) := by
  have e : (x : Int) * 4294967296 = ((4294967296 * x : Nat) : Int) := by omega
  have h := u64_or_nat (4294967296 * x) y (by omega) (by omega)
  rw [e, h, Nat.or_comm, show 4294967296 * x = 2 ^ 32 * x by omega, Nat.or_comm, ← Nat.two_pow_add_eq_or_of_lt hy, Nat.add_comm]
theorem infoLI : (Tryz.prog.info? 43).map (fun i => (i.zero, i.size, i.bytes)) = some (some (.agg #[.int .u32 0, .int .u64 0, .int .u32 0, .int .u32 0]), 4, 24) := by kernel_rfl
theorem make_lI (n : Nat) (hn : n ≤ 1048576) : ∃ cs : Array Value, cs.size = n * 4 ∧ ∀ wx : World, (Instr.makeSlice 23 (.int .i64 (n : Int)) (.int .i64 (n : Int))).run Tryz.prog wx = .ok (.slice (some ⟨wx.heap.size, 0, none⟩) n n) (wx.alloc (.cells cs 43)) := by
  obtain ⟨i0, hi, hzz⟩ := Option.map_eq_some_iff.1 infoLI
  simp only [Prod.mk.injEq] at hzz
  obtain ⟨hz, hs, hb⟩ := hzz
  refine ⟨madeCells #[.int .u32 0, .int .u64 0, .int .u32 0, .int .u32 0] (n * 4), by simp [size_madeCells], fun w => ?_⟩
  have hr := run_make (P := Tryz.prog) w 23 43 i0 _ Tryz.underlying23 hi hz .i64 .i64 n n (by omega) (by omega) (by rw [hb]; omega) (by omega)
  simp only [Int.toNat_natCast, hs] at hr
  rw [hr]
  rfl
theorem Tryz.elemU9 : Tryz.prog.underlying 22 = some (.slice (Tryz.prog.elem 22)) := by kernel_rfl
theorem Tryz.sizeU9 (w : World) : (sizeOf (Tryz.prog.elem 22)).run Tryz.prog w = .ok 1 w := by kernel_rfl
theorem slice_fromW (b n lc i : Nat) (hi : i < n) (h : n ≤ lc) (w : World) : (Instr.slice 22 (.slice (some ⟨b, 0, none⟩) n lc) (some (.int .i64 (i : Int))) none none).run Tryz.prog w = .ok (.slice (some ⟨b, i, none⟩) (n - i) (lc - i)) w := by
  have e1 : (i : Int).toNat = i := by omega
  rw [run_slice_l (ht := Tryz.elemU9) (h0 := by omega) (h1 := by omega), Tryz.sizeU9]
  simp only [Result.andThen_ok, sliced, e1]
  rw [if_neg (by omega)]
  show Result.ok (Value.slice (some ((⟨b, 0, none⟩ : Addr).add (i * 1))) (n - i) (lc - i)) w = _
  have e3 : (Addr.mk b 0 none).add (i * 1) = ⟨b, i, none⟩ := by rw [Nat.mul_one]; unfold Addr.add; split <;> simp_all
  rw [e3]
theorem cell_drewI (u : World) (p : Addr) : u.drew.cell? p = u.cell? p := rfl
theorem cell_otherI {G g : Nat} (h : g ≠ G) (u : World) (q o : Nat) (x : Value) : (u.setCell ⟨G, q, none⟩ x).cell? ⟨g, o, none⟩ = u.cell? ⟨g, o, none⟩ := by
  have e1 : (u.setCell ⟨G, q, none⟩ x).heap[g]? = u.heap[g]? := by first | exact heap_setCell_other _ _ _ _ h | exact heap_setCell_other _ _ _ _ h.symm
  simp only [World.cell?, e1]
/-- the first links are laid. -/
structure LaidL (y wr : World) (G n : Nat) (L : List Hi.Lk) (k : Nat) : Prop where
  blk : ∃ cs : Array Value, cs.size = n * 4 ∧ wr.heap[G]? = some (.cells cs 43 (0, 0)) ∧ ∀ i, i < k * 4 → cs[i]? = (Hi.lvs L)[i]?
  far : ∀ j, j ≠ G → wr.heap[j]? = y.heap[j]?
  bel : Below G y wr
theorem LaidL.cell {y wr : World} {G n k : Nat} {L : List Hi.Lk} (h : LaidL y wr G n L k) (hk : k < n) : ∃ c0 c1 c2 c3 : Value, wr.cell? ⟨G, k * 4, none⟩ = some c0 ∧ wr.cell? ⟨G, k * 4 + 1, none⟩ = some c1 ∧ wr.cell? ⟨G, k * 4 + 2, none⟩ = some c2 ∧ wr.cell? ⟨G, k * 4 + 3, none⟩ = some c3 ∧ (∀ j, wr.frozen? ⟨G, j, none⟩ = false) ∧ G < wr.heap.size := by
  obtain ⟨⟨cs, hs, hh, _⟩, _, _⟩ := h
  refine ⟨cs[k * 4]'(by omega), cs[k * 4 + 1]'(by omega), cs[k * 4 + 2]'(by omega), cs[k * 4 + 3]'(by omega), ?_, ?_, ?_, ?_, fun j => by simp [World.frozen?, hh], w_lt_get hh⟩
  all_goals simp [World.cell?, hh]
theorem LaidL.set {y wr : World} {G n k : Nat} {L : List Hi.Lk} {a : Hi.Lk} (h : LaidL y wr G n L k) (hk : k < n) (ha : L[k]? = some a) :
    LaidL y ((((wr.setCell ⟨G, k * 4, none⟩ (.int .u32 (a.hd : Int))).setCell ⟨G, k * 4 + 1, none⟩ (.int .u64 (a.wt : Int))).setCell ⟨G, k * 4 + 2, none⟩ (.int .u32 (a.lf : Int))).setCell ⟨G, k * 4 + 3, none⟩ (.int .u32 (a.rt : Int))) G n L (k + 1) := by
  obtain ⟨⟨cs, hs, hh, hc⟩, hf, hb⟩ := h
  have s1 := heap_setCell_same wr G (k * 4) _ 43 (.int .u32 (a.hd : Int)) hh
  have s2 := heap_setCell_same _ G (k * 4 + 1) _ 43 (.int .u64 (a.wt : Int)) s1
  have s3 := heap_setCell_same _ G (k * 4 + 2) _ 43 (.int .u32 (a.lf : Int)) s2
  have s4 := heap_setCell_same _ G (k * 4 + 3) _ 43 (.int .u32 (a.rt : Int)) s3
  obtain ⟨g0, g1, g2, g3⟩ := Hi.lvs_get L k a ha
  refine ⟨⟨_, ?_, s4, fun i hi => ?_⟩, fun j hj => ?_, (((hb.setCell (p := ⟨G, _, none⟩) (Nat.le_refl G) _).setCell (p := ⟨G, _, none⟩) (Nat.le_refl G) _).setCell (p := ⟨G, _, none⟩) (Nat.le_refl G) _).setCell (p := ⟨G, _, none⟩) (Nat.le_refl G) _⟩
  · simp [hs]
  · by_cases h0 : i < k * 4
    · rw [Array.getElem?_setIfInBounds_ne (by omega), Array.getElem?_setIfInBounds_ne (by omega), Array.getElem?_setIfInBounds_ne (by omega), Array.getElem?_setIfInBounds_ne (by omega)]
      exact hc i h0
    · rcases (show i = k * 4 ∨ i = k * 4 + 1 ∨ i = k * 4 + 2 ∨ i = k * 4 + 3 by omega) with rfl | rfl | rfl | rfl
      · rw [g0, Array.getElem?_setIfInBounds_ne (by omega), Array.getElem?_setIfInBounds_ne (by omega), Array.getElem?_setIfInBounds_ne (by omega), Array.getElem?_setIfInBounds_self_of_lt (by (try simp only [Array.size_setIfInBounds]); omega)]
      · rw [g1, Array.getElem?_setIfInBounds_ne (by omega), Array.getElem?_setIfInBounds_ne (by omega), Array.getElem?_setIfInBounds_self_of_lt (by (try simp only [Array.size_setIfInBounds]); omega)]
      · rw [g2, Array.getElem?_setIfInBounds_ne (by omega), Array.getElem?_setIfInBounds_self_of_lt (by (try simp only [Array.size_setIfInBounds]); omega)]
      · rw [g3, Array.getElem?_setIfInBounds_self_of_lt (by (try simp only [Array.size_setIfInBounds]); omega)]
  · have e := fun (u : World) (o : Nat) (x : Value) => (show (u.setCell ⟨G, o, none⟩ x).heap[j]? = u.heap[j]? by first | exact heap_setCell_other _ _ _ _ hj | exact heap_setCell_other _ _ _ _ hj.symm)
    rw [e, e, e, e]
    exact hf j hj
theorem laidL_drewN {y wr : World} {G n k : Nat} {L : List Hi.Lk} (h : LaidL y wr G n L k) (m : Nat) : LaidL y (wr.drewN m) G n L k :=
  ⟨h.blk, h.far, h.bel.trans ⟨rfl, rfl, rfl, Nat.le_refl _, fun _ _ => rfl⟩⟩
theorem lvs_len (L : List Hi.Lk) : (Hi.lvs L).length = L.length * 4 := by
  induction L with
  | nil => rfl
  | cons a r ih =>
    have e : Hi.lvs (a :: r) = [.int .u32 (a.hd : Int), .int .u64 (a.wt : Int), .int .u32 (a.lf : Int), .int .u32 (a.rt : Int)] ++ Hi.lvs r := by simp [Hi.lvs]
    rw [e, List.length_append, ih]
    simp only [List.length_cons, List.length_nil]
    omega
theorem laidL_all {y wr : World} {G : Nat} {L : List Hi.Lk} (h : LaidL y wr G L.length L L.length) : wr.heap[G]? = some (.cells (Hi.lvs L).toArray 43 (0, 0)) := by
  obtain ⟨cs, hs, hh, hc⟩ := h.blk
  have e : cs = (Hi.lvs L).toArray := by
    apply Array.ext_getElem?
    intro i
    by_cases hi : i < L.length * 4
    · rw [hc i hi, List.getElem?_toArray]
    · rw [Array.getElem?_eq_none (by omega), List.getElem?_toArray, List.getElem?_eq_none (by rw [lvs_len]; omega)]
  rw [hh, e]
theorem laidL_to {w y wr : World} {rb G n k m lc : Nat} {lo : Option Addr} {a : Int} {L : List Hi.Lk} (hlt : rb < G) (hw : w.heap.size = G) (hr : RdTo w y rb lo m lc a) (h : LaidL y wr G n L k) : RdTo w wr rb lo m lc a :=
  ⟨(h.far rb (by omega)).trans hr.box, fun j h1 h2 => (h.far j (by omega)).trans (hr.far j h1 h2), hr.bel.trans (h.bel.mono (by omega))⟩

set_option maxRecDepth 100000 in
set_option maxHeartbeats 4000000 in
theorem links_good (rb a : Nat) (L : List Hi.Lk) (lo : Option Addr) (lc : Nat) (l : List Nat) (w : World) (hr : w.heap[rb]? = some (.cells #[.slice lo l.length lc, .int .i64 (a : Int)] 79 (0, 0))) (hl : HasB w (.slice lo l.length lc) l) (hb : Bts l) (hm : l.length ≤ 1073741824) (hcap : l.length ≤ lc) (hfit : a + 4 * (5 * L.length) ≤ l.length) (hL : L.length ≤ 1048576) (hok : ∀ x ∈ L, x.ok) (hx : wordsOf l a (5 * L.length) = lksW L) :
    Calls Tryz.prog 43 #[.pointer (some ⟨rb, 0, none⟩), .int .i64 (L.length : Int)] w fun e w' => e = .returned (.slice (some ⟨w.heap.size, 0, none⟩) L.length L.length) ∧ RdTo w w' rb lo l.length lc ((a : Int) + 4 * (5 * (L.length : Int))) ∧ w'.heap[w.heap.size]? = some (.cells (Hi.lvs L).toArray 43 (0, 0)) := by
  obtain ⟨cs0, hcs, hmk⟩ := make_lI L.length hL
  obtain ⟨G, hG⟩ : ∃ G, w.heap.size = G := ⟨_, rfl⟩
  obtain ⟨W1, hW1⟩ : ∃ W1, w.alloc (.cells cs0 43) = W1 := ⟨_, rfl⟩
  have bW1 : Below w.heap.size w W1 := by rw [← hW1]; exact (Below.refl _ _).alloc (Nat.le_refl _) _
  have nW1 : W1.heap[G]? = some (.cells cs0 43 (0, 0)) := by rw [← hW1, ← hG]; exact heap_new _ _
  have hr1 : W1.heap[rb]? = some (.cells #[.slice lo l.length lc, .int .i64 (a : Int)] 79 (0, 0)) := (bW1.block _ (w_lt_get hr)).trans hr
  have HWD : Hid (Calls Tryz.prog 42 #[.pointer (some ⟨rb, 0, none⟩), .int .i64 (5 * (L.length : Int))] W1 fun e w' => ∃ mo mc, e = .returned (.slice mo (5 * L.length) mc) ∧ LaidL w' w' G L.length L 0 ∧ RdTo w w' rb lo l.length lc ((a : Int) + 4 * (5 * (L.length : Int))) ∧ w'.ownsRow W1.heap.size 39 1 (.slice mo (5 * L.length) mc) (5 * L.length) (wv (lksW L))) := by
    have q := rWords_good rb a (5 * L.length) lo lc l W1 hr1 (hl.keep bW1) hb hm hcap hfit
    rw [hx, show ((5 * L.length : Nat) : Int) = 5 * (L.length : Int) by omega] at q
    refine q.mono ?_
    rintro e w' ⟨mo, mc, rfl, h1, h2⟩
    have hlt := w_lt_get hr
    have hGr : G ≠ rb := by omega
    refine ⟨mo, mc, rfl, ⟨⟨cs0, hcs, (h1.far G (w_lt_get nW1) hGr).trans nW1, fun i hi => by omega⟩, fun _ _ => rfl, Below.refl _ _⟩, ⟨h1.box, fun j h3 h4 => (h1.far j (Nat.lt_of_lt_of_le h3 bW1.size) h4).trans (bW1.block j h3), (bW1.mono (Nat.le_of_lt hlt)).trans h1.bel⟩, h2⟩
  have HK : Hid (W1.heap.size = G + 1 ∧ rb < G ∧ w.heap.size = G) := ⟨by rw [← hW1, ← hG]; simp, by have := w_lt_get hr; omega, hG⟩
  have HOK : Hid (∀ x ∈ L, x.ok) := hok
  have HW1 : Hid (w.alloc (.cells cs0 43) = W1) := hW1
  have l1 := w_lt_get hr1
  have l0 := w_lt_get hr
  clear hr hr1 hl hb hx hok nW1 bW1 hW1 hfit hcs
  rw [hG]
  go_enter Tryz.func43, Tryz.ntmps43
  go_upto_region 2 with fail
  rw [HW1.out]
  clear hmk
  go_upto_region 4 with (go_at_call 42; refine HWD.out.mono ?_; rintro e y ⟨mo, mc, rfl, hly, hrd, hrow⟩)
  have Y : Hid (LaidL y y G L.length L 0 ∧ RdTo w y rb lo l.length lc ((a : Int) + 4 * (5 * (L.length : Int))) ∧ y.ownsRow W1.heap.size 39 1 (.slice mo (5 * L.length) mc) (5 * L.length) (wv (lksW L))) := ⟨hly, hrd, hrow⟩
  clear hly hrd hrow
  go_loopw [17] (fun iv wr => ∃ k : Nat, k ≤ L.length ∧ iv = .int .i64 (k : Nat) ∧ LaidL y wr G L.length L k) (fun iv _ => L.length - (intOf iv).toNat)
  case atStart => exact ⟨0, by omega, rfl, Y.out.1⟩
  case round =>
    obtain ⟨k, hk, rfl, hlay⟩ := hrel
    by_cases hlt : k < L.length
    · obtain ⟨x, hx⟩ : ∃ x, L[k]? = some x := ⟨L[k], List.getElem?_eq_getElem hlt⟩
      obtain ⟨c0, c1, c2, c3, n0, n1, n2, n3, nf, ng⟩ := hlay.cell hlt
      have HN := hlay.set hlt hx
      have xok := HOK.out x (List.mem_of_getElem? hx)
      obtain ⟨g, mc', hv, gB, gl, _, hcell⟩ := wown_at Y.out.2.2 (by omega)
      injection hv with hv1 _ hv3
      subst hv1 hv3
      have hmc : 5 * L.length ≤ mc := (wcap_of Y.out.2.2).1
      have hgne : g ≠ G := by have := HK.out.1; omega
      have hge := hlay.far g hgne
      have hgw : g < wr.heap.size := by
        have := hlay.bel.size
        omega
      have kc : ∀ i v : Nat, (lkW x)[i]? = some v → i < 5 → wr.cell? ⟨g, 5 * k + i, none⟩ = some (.int .u32 (v : Int)) := fun i v hi h5 => by
        have q := hcell (5 * k + i) v ((lksW_get L k x hx i h5).trans hi)
        simpa [World.cell?, hge] using q
      have HSL : ∀ wx, (Instr.slice 22 (.slice (some ⟨g, 0, none⟩) (5 * L.length) mc) (some (.int .i64 (5 * (k : Int)))) none none).run Tryz.prog wx = .ok (.slice (some ⟨g, 5 * k, none⟩) (5 * L.length - 5 * k) (mc - 5 * k)) wx := fun wx => by
        have q := slice_fromW g (5 * L.length) mc (5 * k) (by omega) hmc wx
        rw [show ((5 * k : Nat) : Int) = 5 * (k : Int) by omega] at q
        exact q
      obtain ⟨xh, xw, xl, xr⟩ := x
      have p0 := kc 0 _ rfl (by omega)
      rw [Nat.add_zero] at p0
      have p1 := kc 1 _ rfl (by omega)
      have p2 := kc 2 _ rfl (by omega)
      have p3 := kc 3 _ rfl (by omega)
      have p4 := kc 4 _ rfl (by omega)
      obtain ⟨k1, k2, k3, k4⟩ := xok
      simp only at k1 k2 k3 k4 p0 p1 p2 p3 p4
      have oX : bits .or .u64 (((xw / 4294967296 : Nat) : Int) * 4294967296) ((xw % 4294967296 : Nat) : Int) = (xw : Int) := by
        rw [or_half (by omega) (by omega)]
        congr 1
        omega
      have b3 : xw % 4294967296 < 4294967296 := by omega
      have b4 : xw / 4294967296 < 4294967296 := by omega
      generalize xw % 4294967296 = x3 at *
      generalize xw / 4294967296 = x4 at *
      have oW : IntKind.u64.wrap ((x4 : Int) * 4294967296) = (x4 : Int) * 4294967296 := by rw [IntKind.wrap_u64]; omega
      have HNX : Hid (LaidL y ((((wr.setCell ⟨G, k * 4, none⟩ (.int .u32 (xh : Int))).setCell ⟨G, k * 4 + 1, none⟩ (.int .u64 (xw : Int))).setCell ⟨G, k * 4 + 2, none⟩ (.int .u32 (xl : Int))).setCell ⟨G, k * 4 + 3, none⟩ (.int .u32 (xr : Int))) G L.length L (k + 1)) := HN
      have f0 := nf (k * 4)
      have f1 := nf (k * 4 + 1)
      have f2 := nf (k * 4 + 2)
      have f3 := nf (k * 4 + 3)
      have i1 : (k : Int) < (L.length : Int) := by omega
      have i2 : (0 : Int) < (5 * L.length - 5 * k : Nat) := by omega
      have i3 : (1 : Int) < (5 * L.length - 5 * k : Nat) := by omega
      have i4 : (2 : Int) < (5 * L.length - 5 * k : Nat) := by omega
      have i5 : (3 : Int) < (5 * L.length - 5 * k : Nat) := by omega
      have i6 : (4 : Int) < (5 * L.length - 5 * k : Nat) := by omega
      clear HN hcell kc hge nf hlay hx
      generalize 5 * L.length - 5 * k = m5 at *
      generalize mc - 5 * k = c5 at *
      have w3 : IntKind.u64.wrap (x3 : Int) = (x3 : Int) := by rw [IntKind.wrap_u64]; omega
      have w4 : IntKind.u64.wrap (x4 : Int) = (x4 : Int) := by rw [IntKind.wrap_u64]; omega
      have i7 : 0 < m5 := by omega
      go_upto_region 7 with fail
      go_region_held3 (fun w' => w'.cell? ⟨g, 5 * k, none⟩ = some (.int .u32 (xh : Int)) ∧ w'.cell? ⟨g, 5 * k + 1, none⟩ = some (.int .u32 (xl : Int)) ∧ w'.cell? ⟨g, 5 * k + 2, none⟩ = some (.int .u32 (xr : Int)) ∧ w'.cell? ⟨g, 5 * k + 3, none⟩ = some (.int .u32 (x3 : Int)) ∧ w'.cell? ⟨g, 5 * k + 4, none⟩ = some (.int .u32 (x4 : Int))) ((first | (go_keep; done) | (refine ⟨?_, ?_, ?_, ?_, ?_⟩ <;> (simp only [cell_drewI, cell_otherI hgne]; assumption)))) (fail)
      go_wp2
      go_roundw
      case rel => exact ⟨k + 1, by omega, by go_num, by first | exact HNX.out | exact laidL_drewN HNX.out _ | exact laidL_drewN HNX.out 1⟩
      case measure => simp [intOf]; omega
    · obtain rfl : k = L.length := by omega
      have HE : Hid (LaidL y wr G L.length L L.length) := hlay
      clear hlay
      go_wp2_with fail
      go_ret
      exact ⟨rfl, laidL_to HK.out.2.1 HK.out.2.2 Y.out.2.1 HE.out, laidL_all HE.out⟩
end Go.Proofs.YtamedcnjanichabGreatDoor

namespace Go.Proofs.YtamedcnjanichabGreatDoor
open Go.RowKit Go.Extern Cr

attribute [local go_sem] Oper.semAt_some

/-- where hierOf stands: its result, its reader, all below as it was. -/
structure RS (w wx : World) (lo : Option Addr) (n lc : Nat) (a : Int) : Prop where
  res : wx.heap[w.heap.size]? = some (.cells #[.slice none 0 0, .slice none 0 0, .slice none 0 0, .slice none 0 0, .slice none 0 0] 25 (0, 0))
  box : wx.heap[w.heap.size + 1]? = some (.cells #[.slice lo n lc, .int .i64 a] 79 (0, 0))
  bel : Below w.heap.size w wx
theorem RS.to {w wx w' : World} {lo : Option Addr} {n lc : Nat} {a a' a'' : Int} (h : RS w wx lo n lc a) (k : RdTo wx w' (w.heap.size + 1) lo n lc a') (e : a' = a'') : RS w w' lo n lc a'' := by
  subst e
  exact ⟨(k.far _ (w_lt_get h.res) (by omega)).trans h.res, k.box, h.bel.trans (k.bel.mono (by omega))⟩
theorem RS.up {w wx w' : World} {lo : Option Addr} {n lc : Nat} {a : Int} (h : RS w wx lo n lc a) (k : Below wx.heap.size wx w') : RS w w' lo n lc a :=
  ⟨(k.block _ (w_lt_get h.res)).trans h.res, (k.block _ (w_lt_get h.box)).trans h.box, h.bel.trans (k.mono h.bel.size)⟩
/-- and the hierarchy that it fills. -/
structure RH (w wx : World) (b : Nat) (vs : Array Value) (lo : Option Addr) (n lc : Nat) (a : Int) : Prop where
  rs : RS w wx lo n lc a
  lt : w.heap.size + 1 < b
  blk : wx.heap[b]? = some (.cells vs 25 (0, 0))
theorem RH.to {w wx w' : World} {b : Nat} {vs : Array Value} {lo : Option Addr} {n lc : Nat} {a a' a'' : Int} (h : RH w wx b vs lo n lc a) (k : RdTo wx w' (w.heap.size + 1) lo n lc a') (e : a' = a'') : RH w w' b vs lo n lc a'' :=
  ⟨h.rs.to k e, h.lt, (k.far _ (w_lt_get h.blk) (by have := h.lt; omega)).trans h.blk⟩
theorem RH.set {w wx : World} {b : Nat} {vs vs' : Array Value} {lo : Option Addr} {n lc : Nat} {a : Int} (h : RH w wx b vs lo n lc a) (i : Nat) (x : Value) (e : vs.setIfInBounds i x = vs') : RH w (wx.setCell ⟨b, i, none⟩ x) b vs' lo n lc a := by
  have hlt := h.lt
  have o : ∀ j, j ≠ b → (wx.setCell ⟨b, i, none⟩ x).heap[j]? = wx.heap[j]? := fun j hj => by
    first | exact heap_setCell_other _ _ _ _ hj | exact heap_setCell_other _ _ _ _ hj.symm
  refine ⟨⟨(o _ (by omega)).trans h.rs.res, (o _ (by omega)).trans h.rs.box, h.rs.bel.setCell (p := ⟨b, i, none⟩) (show w.heap.size ≤ b by omega) _⟩, hlt, ?_⟩
  rw [heap_setCell_same wx b i _ 25 x h.blk, e]
theorem row_to {w w' : World} {rb B n z m lc : Nat} {T : TypeId} {v : Value} {xs : List Value} {lo : Option Addr} {a : Int} (h : w.ownsRow B T z v n xs) (hB : rb < B) (k : RdTo w w' rb lo m lc a) : w'.ownsRow B T z v n xs :=
  Hi.own_keep h fun j cur hj hh => (k.far j (h.lt j hj).2 (by have := (h.lt j hj).1; omega)).trans hh
theorem row_set {w : World} {b i B n z : Nat} {T : TypeId} {v x : Value} {xs : List Value} (h : w.ownsRow B T z v n xs) (hB : b < B) : (w.setCell ⟨b, i, none⟩ x).ownsRow B T z v n xs :=
  Hi.own_keep h fun j cur hj hh => by
    have hne : j ≠ b := by have := (h.lt j hj).1; omega
    have e : (w.setCell ⟨b, i, none⟩ x).heap[j]? = w.heap[j]? := by first | exact heap_setCell_other _ _ _ _ hne | exact heap_setCell_other _ _ _ _ hne.symm
    exact e.trans hh
theorem row_low {w : World} {B B' n z : Nat} {T : TypeId} {v : Value} {xs : List Value} (h : w.ownsRow B T z v n xs) (hb : B' ≤ B) : w.ownsRow B' T z v n xs := by
  obtain ⟨h1, h2⟩ := h
  refine ⟨h1, ?_⟩
  rcases h2 with h2 | ⟨g, cap, cur, e, hg, r⟩
  · exact Or.inl h2
  · exact Or.inr ⟨g, cap, cur, e, Nat.le_trans hb hg, r⟩
theorem row_lks {w : World} {s : Nat} {L : List Hi.Lk} (h : w.heap[s]? = some (.cells (Hi.lvs L).toArray 43 (0, 0))) (hL : L.length ≤ 1048576) : w.ownsRow s 43 4 (.slice (some ⟨s, 0, none⟩) L.length L.length) L.length (Hi.lvs L) := by
  refine ⟨lvs_len L, Or.inr ⟨s, L.length, _, rfl, Nat.le_refl _, h, Nat.le_refl _, by unfold maxLen; omega, by simp [lvs_len], ?_⟩⟩
  simp [List.take_of_length_le, lvs_len]
theorem hier_res {W : World} {z : Nat} {x0 x1 x2 x3 x4 : Value} {tmps : Array Value} (h1 : W.heap[z]? = some (.cells #[x0, x1, x2, x3, x4] 25)) (t4 : tmps[2]?.getD undef = .pointer (some ⟨z, 0, none⟩)) :
    (results Tryz.f18 tmps).run Tryz.prog W = .ok (.agg #[x0, x1, x2, x3, x4]) W := by
  obtain ⟨c0, c1, c2, c3, c4⟩ := Hi.five_cells h1
  simp [results, Tryz.results18, go_sem, t4, c0, c1, c2, c3, c4]

/-- the three lists of words lie in blocks of their own. -/
def Ap3 (u : Hi.HV) : Prop := (∀ a b, u.no = some a → u.uo = some b → a.block < b.block) ∧ (∀ a b, u.uo = some a → u.wo = some b → a.block < b.block) ∧ (∀ a b, u.no = some a → u.wo = some b → a.block < b.block)
set_option maxRecDepth 100000 in
set_option maxHeartbeats 4000000 in
theorem hierOf_goodA (lo : Option Addr) (lc : Nat) (l : List Nat) (h : Hi.Hr) (w : World) (hl : HasB w (.slice lo l.length lc) l) (hcap : l.length ≤ lc) (hi : ImgOk l h) (hf : HasFours w) (hg : 1 < w.heap.size) (ku : ∀ x ∈ h.up, x.ok) (kd : ∀ x ∈ h.dn, x.ok) :
    Calls Tryz.prog 18 #[.slice lo l.length lc] w fun e w' => ∃ u, e = .returned (Hi.hvl u h) ∧ Hi.OwnH w' w.heap.size u h ∧ Below w.heap.size w w' ∧ Ap3 u := by
  have hb := hi.bts
  have hlen := hi.len
  have hn := hi.sm.n
  have hu := hi.sm.u
  have hd := hi.sm.d
  have huf := hi.sm.uf
  have hdf := hi.sm.df
  have hm : l.length ≤ 1073741824 := by omega
  have hkl : ∀ {wx : World} {a : Int}, RS w wx lo l.length lc a → HasB wx (.slice lo l.length lc) l := fun r => hl.keep r.bel
  have R1 : Hid (∀ wx, RS w wx lo l.length lc 0 → Calls Tryz.prog 37 #[.pointer (some ⟨w.heap.size + 1, 0, none⟩), .int .i64 32] wx fun e w' => e = .returned (.tuple #[]) ∧ w' = wx) := fun wx r => reach_good _ lo lc l.length 32 0 wx r.box (by omega)
  have S1 : Hid (∀ wx, RS w wx lo l.length lc 0 → Calls Tryz.prog 38 #[.pointer (some ⟨w.heap.size + 1, 0, none⟩), .string { data := #[86, 68, 67, 84] }, .int .i64 11] wx fun e w' => e = .returned (.tuple #[]) ∧ RS w w' lo l.length lc 4) := fun wx r => by
    refine (sign_magic _ lo lc l 11 wx r.box (hkl r) (by omega) hi.hd).mono ?_
    rintro e w' ⟨rfl, q⟩
    exact ⟨rfl, r.to q rfl⟩
  have S2 : Hid (∀ wx, RS w wx lo l.length lc 4 → Calls Tryz.prog 38 #[.pointer (some ⟨w.heap.size + 1, 0, none⟩), .string { data := #[1, 0, 0, 0] }, .int .i64 12] wx fun e w' => e = .returned (.tuple #[]) ∧ RS w w' lo l.length lc ((8 : Nat) : Int)) := fun wx r => by
    refine (sign_version _ lo lc l 12 wx r.box (hkl r) (by omega) hi.hd).mono ?_
    rintro e w' ⟨rfl, q⟩
    exact ⟨rfl, r.to q rfl⟩
  have C1 : Hid (∀ wx, RS w wx lo l.length lc ((8 : Nat) : Int) → Calls Tryz.prog 39 #[.pointer (some ⟨w.heap.size + 1, 0, none⟩), .int .i64 65536] wx fun e w' => e = .returned (.int .i64 (h.node.length : Int)) ∧ RS w w' lo l.length lc ((12 : Nat) : Int)) := fun wx r => by
    refine (count_good _ 8 h.node.length 65536 lo lc l wx r.box (hkl r) hb (by omega) hcap (by omega) hi.w0 hn (by omega) (by decide)).mono ?_
    rintro e w' ⟨rfl, q⟩
    exact ⟨rfl, r.to q (by omega)⟩
  have C2 : Hid (∀ wx, RS w wx lo l.length lc ((12 : Nat) : Int) → Calls Tryz.prog 39 #[.pointer (some ⟨w.heap.size + 1, 0, none⟩), .int .i64 1048576] wx fun e w' => e = .returned (.int .i64 (h.up.length : Int)) ∧ RS w w' lo l.length lc ((16 : Nat) : Int)) := fun wx r => by
    refine (count_good _ 12 h.up.length 1048576 lo lc l wx r.box (hkl r) hb (by omega) hcap (by omega) hi.w1 hu (by omega) (by decide)).mono ?_
    rintro e w' ⟨rfl, q⟩
    exact ⟨rfl, r.to q (by omega)⟩
  have C3 : Hid (∀ wx, RS w wx lo l.length lc ((16 : Nat) : Int) → Calls Tryz.prog 39 #[.pointer (some ⟨w.heap.size + 1, 0, none⟩), .int .i64 1048576] wx fun e w' => e = .returned (.int .i64 (h.dn.length : Int)) ∧ RS w w' lo l.length lc ((20 : Nat) : Int)) := fun wx r => by
    refine (count_good _ 16 h.dn.length 1048576 lo lc l wx r.box (hkl r) hb (by omega) hcap (by omega) hi.w2 hd (by omega) (by decide)).mono ?_
    rintro e w' ⟨rfl, q⟩
    exact ⟨rfl, r.to q (by omega)⟩
  have Z1 : Hid (∀ wx, Calls Tryz.prog 41 #[.int .i64 (h.node.length : Int), .int .i64 (h.up.length : Int), .int .i64 (h.dn.length : Int)] wx fun e w' => e = .returned (.int .i64 (l.length : Int)) ∧ w' = wx) := fun wx => by
    have q := sizeOf_calls h.node.length h.up.length h.dn.length (by omega) (by omega) (by omega) wx
    rw [← hlen] at q
    exact q
  have E1 : Hid (∀ wx, RS w wx lo l.length lc ((20 : Nat) : Int) → Calls Tryz.prog 40 #[.pointer (some ⟨w.heap.size + 1, 0, none⟩), .int .i64 (l.length : Int)] wx fun e w' => e = .returned (.tuple #[]) ∧ RS w w' lo l.length lc ((20 : Nat) : Int)) := fun wx r => by
    refine (end_good _ lo lc l _ wx r.box (hkl r) hb hm hcap hi.fit (fours_keep hf hg r.bel) (Nat.lt_of_lt_of_le hg r.bel.size)).mono ?_
    rintro e w' ⟨rfl, q⟩
    exact ⟨rfl, r.up q⟩
  obtain ⟨a1, ha1⟩ : ∃ a1, 20 + 4 * h.node.length = a1 := ⟨_, rfl⟩
  obtain ⟨a2, ha2⟩ : ∃ a2, a1 + 4 * (h.node.length + 1) = a2 := ⟨_, rfl⟩
  obtain ⟨a3, ha3⟩ : ∃ a3, a2 + 4 * (5 * h.up.length) = a3 := ⟨_, rfl⟩
  obtain ⟨a4, ha4⟩ : ∃ a4, a3 + 4 * (h.node.length + 1) = a4 := ⟨_, rfl⟩
  have q2 := hi.uf
  have q3 := hi.up
  have q4 := hi.df
  have q5 := hi.dn
  rw [ha1] at q2 q3 q4 q5
  rw [ha2] at q3 q4 q5
  rw [ha3] at q4 q5
  rw [ha4] at q5
  have W1 : Hid (∀ wx, RS w wx lo l.length lc ((20 : Nat) : Int) → Calls Tryz.prog 42 #[.pointer (some ⟨w.heap.size + 1, 0, none⟩), .int .i64 (h.node.length : Int)] wx fun e w' => ∃ mo mc, e = .returned (.slice mo h.node.length mc) ∧ RdTo wx w' (w.heap.size + 1) lo l.length lc (a1 : Int) ∧ w'.ownsRow wx.heap.size 39 1 (.slice mo h.node.length mc) h.node.length (Hi.wvs h.node)) := fun wx r => by
    have q := rWords_good _ 20 h.node.length lo lc l wx r.box (hkl r) hb hm hcap (by omega)
    rw [hi.nd, show ((20 : Nat) : Int) + 4 * (h.node.length : Int) = (a1 : Int) by omega] at q
    exact q
  have W2 : Hid (∀ wx, RS w wx lo l.length lc (a1 : Int) → Calls Tryz.prog 42 #[.pointer (some ⟨w.heap.size + 1, 0, none⟩), .int .i64 ((h.node.length : Int) + 1)] wx fun e w' => ∃ mo mc, e = .returned (.slice mo h.upF.length mc) ∧ RdTo wx w' (w.heap.size + 1) lo l.length lc (a2 : Int) ∧ w'.ownsRow wx.heap.size 39 1 (.slice mo h.upF.length mc) h.upF.length (Hi.wvs h.upF)) := fun wx r => by
    have q := rWords_good _ a1 (h.node.length + 1) lo lc l wx r.box (hkl r) hb hm hcap (by omega)
    rw [q2, show (a1 : Int) + 4 * ((h.node.length + 1 : Nat) : Int) = (a2 : Int) by omega, show ((h.node.length + 1 : Nat) : Int) = (h.node.length : Int) + 1 by omega, ← huf] at q
    exact q
  have W3 : Hid (∀ wx, RS w wx lo l.length lc (a2 : Int) → Calls Tryz.prog 43 #[.pointer (some ⟨w.heap.size + 1, 0, none⟩), .int .i64 (h.up.length : Int)] wx fun e w' => ∃ mo mc, e = .returned (.slice mo h.up.length mc) ∧ RdTo wx w' (w.heap.size + 1) lo l.length lc (a3 : Int) ∧ w'.ownsRow wx.heap.size 43 4 (.slice mo h.up.length mc) h.up.length (Hi.lvs h.up)) := fun wx r => by
    refine (links_good _ a2 h.up lo lc l wx r.box (hkl r) hb hm hcap (by omega) hu ku q3).mono ?_
    rintro e w' ⟨rfl, k1, k2⟩
    rw [show (a2 : Int) + 4 * (5 * (h.up.length : Int)) = (a3 : Int) by omega] at k1
    exact ⟨_, _, rfl, k1, row_lks k2 hu⟩
  have W4 : Hid (∀ wx, RS w wx lo l.length lc (a3 : Int) → Calls Tryz.prog 42 #[.pointer (some ⟨w.heap.size + 1, 0, none⟩), .int .i64 ((h.node.length : Int) + 1)] wx fun e w' => ∃ mo mc, e = .returned (.slice mo h.dnF.length mc) ∧ RdTo wx w' (w.heap.size + 1) lo l.length lc (a4 : Int) ∧ w'.ownsRow wx.heap.size 39 1 (.slice mo h.dnF.length mc) h.dnF.length (Hi.wvs h.dnF)) := fun wx r => by
    have q := rWords_good _ a3 (h.node.length + 1) lo lc l wx r.box (hkl r) hb hm hcap (by omega)
    rw [q4, show (a3 : Int) + 4 * ((h.node.length + 1 : Nat) : Int) = (a4 : Int) by omega, show ((h.node.length + 1 : Nat) : Int) = (h.node.length : Int) + 1 by omega, ← hdf] at q
    exact q
  have W5 : Hid (∀ wx, RS w wx lo l.length lc (a4 : Int) → Calls Tryz.prog 43 #[.pointer (some ⟨w.heap.size + 1, 0, none⟩), .int .i64 (h.dn.length : Int)] wx fun e w' => ∃ mo mc, e = .returned (.slice mo h.dn.length mc) ∧ RdTo wx w' (w.heap.size + 1) lo l.length lc ((a4 : Int) + 4 * (5 * (h.dn.length : Int))) ∧ w'.ownsRow wx.heap.size 43 4 (.slice mo h.dn.length mc) h.dn.length (Hi.lvs h.dn)) := fun wx r => by
    refine (links_good _ a4 h.dn lo lc l wx r.box (hkl r) hb hm hcap (by omega) hd kd q5).mono ?_
    rintro e w' ⟨rfl, k1, k2⟩
    exact ⟨_, _, rfl, k1, row_lks k2 hd⟩
  obtain ⟨W0, hW0⟩ : ∃ W0, (w.alloc (.cells #[.slice none 0 0, .slice none 0 0, .slice none 0 0, .slice none 0 0, .slice none 0 0] 25)).alloc (.cells #[.slice lo l.length lc, .int .i64 0] 79) = W0 := ⟨_, rfl⟩
  have Y0 : Hid (RS w W0 lo l.length lc 0) := by
    obtain ⟨g0, g1, g2⟩ := two_newI w (.cells #[.slice none 0 0, .slice none 0 0, .slice none 0 0, .slice none 0 0, .slice none 0 0] 25) (.cells #[.slice lo l.length lc, .int .i64 0] 79)
    rw [hW0] at g0 g1 g2
    exact ⟨g0, g1, g2⟩
  have HW0 : Hid ((w.alloc (.cells #[.slice none 0 0, .slice none 0 0, .slice none 0 0, .slice none 0 0, .slice none 0 0] 25)).alloc (.cells #[.slice lo l.length lc, .int .i64 0] 79) = W0) := hW0
  clear hb hlen huf hdf hkl ha1 ha2 ha3 ha4 q2 q3 q4 q5 hW0 hl hi hf ku kd
  unfold Hi.hvl
  go_enter Tryz.func18, Tryz.ntmps18
  go_upto_region 2 with fail
  rw [HW0.out]
  go_wp2_with fail
  refine (R1.out _ Y0.out).mono ?_
  rintro e y ⟨rfl, hy⟩
  have hy' := hy.symm
  clear hy
  subst hy'
  go_wp2_with fail
  refine (S1.out _ Y0.out).mono ?_
  rintro e y1 ⟨rfl, r⟩
  have Y1 : Hid (type_of% r) := r
  clear r
  go_wp2_with fail
  refine (S2.out _ Y1.out).mono ?_
  rintro e y2 ⟨rfl, r⟩
  have Y2 : Hid (type_of% r) := r
  clear r
  go_wp2_with fail
  refine (C1.out _ Y2.out).mono ?_
  rintro e y3 ⟨rfl, r⟩
  have Y3 : Hid (type_of% r) := r
  clear r
  go_wp2_with fail
  refine (C2.out _ Y3.out).mono ?_
  rintro e y4 ⟨rfl, r⟩
  have Y4 : Hid (type_of% r) := r
  clear r
  go_wp2_with fail
  refine (C3.out _ Y4.out).mono ?_
  rintro e y5 ⟨rfl, r⟩
  have Y5 : Hid (type_of% r) := r
  clear r
  go_wp2_with fail
  refine (Z1.out _).mono ?_
  rintro e y6 ⟨rfl, hy⟩
  have hy' := hy.symm
  clear hy
  subst hy'
  go_wp2_with fail
  refine (E1.out _ Y5.out).mono ?_
  rintro e y7 ⟨rfl, r⟩
  have Y7 : Hid (type_of% r) := r
  clear r
  obtain ⟨b, hbz⟩ : ∃ b, y7.heap.size = b := ⟨_, rfl⟩
  obtain ⟨W9, hW9⟩ : ∃ W9, y7.alloc (.cells #[.slice none 0 0, .slice none 0 0, .slice none 0 0, .slice none 0 0, .slice none 0 0] 25) = W9 := ⟨_, rfl⟩
  have HW9 : Hid (y7.alloc (.cells #[.slice none 0 0, .slice none 0 0, .slice none 0 0, .slice none 0 0, .slice none 0 0] 25) = W9 ∧ y7.heap.size = b) := ⟨hW9, hbz⟩
  have H0 : Hid (RH w W9 b #[.slice none 0 0, .slice none 0 0, .slice none 0 0, .slice none 0 0, .slice none 0 0] lo l.length lc ((20 : Nat) : Int)) := by
    have k1 : Below y7.heap.size y7 W9 := by rw [← hW9]; exact (Below.refl _ _).alloc (Nat.le_refl _) _
    have k2 : W9.heap[b]? = some (.cells #[.slice none 0 0, .slice none 0 0, .slice none 0 0, .slice none 0 0, .slice none 0 0] 25 (0, 0)) := by rw [← hW9, ← hbz]; exact heap_new _ _
    exact ⟨Y7.out.up k1, by rw [← hbz]; exact w_lt_get Y7.out.box, k2⟩
  have l0 := w_lt_get H0.out.blk
  clear hW9 hbz
  go_upto_region 10 with fail
  rw [HW9.out.1]
  try rw [HW9.out.2]
  go_wp2_with fail
  refine (W1.out _ H0.out.rs).mono ?_
  rintro e v1 ⟨m1, c1, rfl, rd, row⟩
  have A1 : Hid ((∀ a, m1 = some a → W9.heap.size ≤ a.block ∧ a.block < v1.heap.size) ∧ W9.heap.size ≤ v1.heap.size) := ⟨fun a e => by have q := row.lt a.block (by rw [e]; rfl); simpa [World.setCell] using q, by have q := rd.bel.size; simpa [World.setCell] using q⟩
  have HH : Hid (RH w v1 b #[.slice none 0 0, .slice none 0 0, .slice none 0 0, .slice none 0 0, .slice none 0 0] lo l.length lc (a1 : Int)) := H0.out.to rd rfl
  have H1 : Hid (RH w (v1.setCell ⟨b, 0, none⟩ (.slice m1 h.node.length c1)) b #[.slice m1 h.node.length c1, .slice none 0 0, .slice none 0 0, .slice none 0 0, .slice none 0 0] lo l.length lc (a1 : Int) ∧ (v1.setCell ⟨b, 0, none⟩ (.slice m1 h.node.length c1)).ownsRow (b + 1) 39 1 (.slice m1 h.node.length c1) h.node.length (Hi.wvs h.node)) := ⟨HH.out.set 0 (.slice m1 h.node.length c1) rfl, row_set (row_low row (w_lt_get H0.out.blk)) (Nat.lt_succ_self b)⟩
  clear l0 rd row
  have l0 := w_lt_get HH.out.blk
  obtain ⟨e0, e1, e2, e3, e4⟩ := Hi.five_cells HH.out.blk
  have f1 : v1.frozen? ⟨b, 0, none⟩ = false := by simp [World.frozen?, HH.out.blk]
  clear HH
  go_wp2_with fail
  refine (W2.out _ H1.out.1.rs).mono ?_
  rintro e v2 ⟨m2, c2, rfl, rd, row⟩
  have A2 : Hid ((∀ a, m2 = some a → v1.heap.size ≤ a.block ∧ a.block < v2.heap.size) ∧ v1.heap.size ≤ v2.heap.size) := ⟨fun a e => by have q := row.lt a.block (by rw [e]; rfl); simpa [World.setCell] using q, by have q := rd.bel.size; simpa [World.setCell] using q⟩
  have R1_1 := H1.out.2
  have HH : Hid (RH w v2 b #[.slice m1 h.node.length c1, .slice none 0 0, .slice none 0 0, .slice none 0 0, .slice none 0 0] lo l.length lc (a2 : Int)) := H1.out.1.to rd rfl
  have H2 : Hid (RH w (v2.setCell ⟨b, 1, none⟩ (.slice m2 h.upF.length c2)) b #[.slice m1 h.node.length c1, .slice m2 h.upF.length c2, .slice none 0 0, .slice none 0 0, .slice none 0 0] lo l.length lc (a2 : Int) ∧ (v2.setCell ⟨b, 1, none⟩ (.slice m2 h.upF.length c2)).ownsRow (b + 1) 39 1 (.slice m1 h.node.length c1) h.node.length (Hi.wvs h.node) ∧ (v2.setCell ⟨b, 1, none⟩ (.slice m2 h.upF.length c2)).ownsRow (b + 1) 39 1 (.slice m2 h.upF.length c2) h.upF.length (Hi.wvs h.upF)) := ⟨HH.out.set 1 (.slice m2 h.upF.length c2) rfl, row_set (row_to R1_1 (by have := H1.out.1.lt; omega) rd) (Nat.lt_succ_self b), row_set (row_low row (w_lt_get H1.out.1.blk)) (Nat.lt_succ_self b)⟩
  clear l0 e0 e1 e2 e3 e4 f1 rd row R1_1
  have l0 := w_lt_get HH.out.blk
  obtain ⟨e0, e1, e2, e3, e4⟩ := Hi.five_cells HH.out.blk
  have f2 : v2.frozen? ⟨b, 1, none⟩ = false := by simp [World.frozen?, HH.out.blk]
  clear HH
  go_wp2_with fail
  refine (W3.out _ H2.out.1.rs).mono ?_
  rintro e v3 ⟨m3, c3, rfl, rd, row⟩
  have A3 : Hid ((∀ a, m3 = some a → v2.heap.size ≤ a.block ∧ a.block < v3.heap.size) ∧ v2.heap.size ≤ v3.heap.size) := ⟨fun a e => by have q := row.lt a.block (by rw [e]; rfl); simpa [World.setCell] using q, by have q := rd.bel.size; simpa [World.setCell] using q⟩
  obtain ⟨R2_1, R2_2⟩ := H2.out.2
  have HH : Hid (RH w v3 b #[.slice m1 h.node.length c1, .slice m2 h.upF.length c2, .slice none 0 0, .slice none 0 0, .slice none 0 0] lo l.length lc (a3 : Int)) := H2.out.1.to rd rfl
  have H3 : Hid (RH w (v3.setCell ⟨b, 2, none⟩ (.slice m3 h.up.length c3)) b #[.slice m1 h.node.length c1, .slice m2 h.upF.length c2, .slice m3 h.up.length c3, .slice none 0 0, .slice none 0 0] lo l.length lc (a3 : Int) ∧ (v3.setCell ⟨b, 2, none⟩ (.slice m3 h.up.length c3)).ownsRow (b + 1) 39 1 (.slice m1 h.node.length c1) h.node.length (Hi.wvs h.node) ∧ (v3.setCell ⟨b, 2, none⟩ (.slice m3 h.up.length c3)).ownsRow (b + 1) 39 1 (.slice m2 h.upF.length c2) h.upF.length (Hi.wvs h.upF) ∧ (v3.setCell ⟨b, 2, none⟩ (.slice m3 h.up.length c3)).ownsRow (b + 1) 43 4 (.slice m3 h.up.length c3) h.up.length (Hi.lvs h.up)) := ⟨HH.out.set 2 (.slice m3 h.up.length c3) rfl, row_set (row_to R2_1 (by have := H2.out.1.lt; omega) rd) (Nat.lt_succ_self b), row_set (row_to R2_2 (by have := H2.out.1.lt; omega) rd) (Nat.lt_succ_self b), row_set (row_low row (w_lt_get H2.out.1.blk)) (Nat.lt_succ_self b)⟩
  clear l0 e0 e1 e2 e3 e4 f2 rd row R2_1 R2_2
  have l0 := w_lt_get HH.out.blk
  obtain ⟨e0, e1, e2, e3, e4⟩ := Hi.five_cells HH.out.blk
  have f3 : v3.frozen? ⟨b, 2, none⟩ = false := by simp [World.frozen?, HH.out.blk]
  clear HH
  go_wp2_with fail
  refine (W4.out _ H3.out.1.rs).mono ?_
  rintro e v4 ⟨m4, c4, rfl, rd, row⟩
  have A4 : Hid ((∀ a, m4 = some a → v3.heap.size ≤ a.block ∧ a.block < v4.heap.size) ∧ v3.heap.size ≤ v4.heap.size) := ⟨fun a e => by have q := row.lt a.block (by rw [e]; rfl); simpa [World.setCell] using q, by have q := rd.bel.size; simpa [World.setCell] using q⟩
  obtain ⟨R3_1, R3_2, R3_3⟩ := H3.out.2
  have HH : Hid (RH w v4 b #[.slice m1 h.node.length c1, .slice m2 h.upF.length c2, .slice m3 h.up.length c3, .slice none 0 0, .slice none 0 0] lo l.length lc (a4 : Int)) := H3.out.1.to rd rfl
  have H4 : Hid (RH w (v4.setCell ⟨b, 3, none⟩ (.slice m4 h.dnF.length c4)) b #[.slice m1 h.node.length c1, .slice m2 h.upF.length c2, .slice m3 h.up.length c3, .slice m4 h.dnF.length c4, .slice none 0 0] lo l.length lc (a4 : Int) ∧ (v4.setCell ⟨b, 3, none⟩ (.slice m4 h.dnF.length c4)).ownsRow (b + 1) 39 1 (.slice m1 h.node.length c1) h.node.length (Hi.wvs h.node) ∧ (v4.setCell ⟨b, 3, none⟩ (.slice m4 h.dnF.length c4)).ownsRow (b + 1) 39 1 (.slice m2 h.upF.length c2) h.upF.length (Hi.wvs h.upF) ∧ (v4.setCell ⟨b, 3, none⟩ (.slice m4 h.dnF.length c4)).ownsRow (b + 1) 43 4 (.slice m3 h.up.length c3) h.up.length (Hi.lvs h.up) ∧ (v4.setCell ⟨b, 3, none⟩ (.slice m4 h.dnF.length c4)).ownsRow (b + 1) 39 1 (.slice m4 h.dnF.length c4) h.dnF.length (Hi.wvs h.dnF)) := ⟨HH.out.set 3 (.slice m4 h.dnF.length c4) rfl, row_set (row_to R3_1 (by have := H3.out.1.lt; omega) rd) (Nat.lt_succ_self b), row_set (row_to R3_2 (by have := H3.out.1.lt; omega) rd) (Nat.lt_succ_self b), row_set (row_to R3_3 (by have := H3.out.1.lt; omega) rd) (Nat.lt_succ_self b), row_set (row_low row (w_lt_get H3.out.1.blk)) (Nat.lt_succ_self b)⟩
  clear l0 e0 e1 e2 e3 e4 f3 rd row R3_1 R3_2 R3_3
  have l0 := w_lt_get HH.out.blk
  obtain ⟨e0, e1, e2, e3, e4⟩ := Hi.five_cells HH.out.blk
  have f4 : v4.frozen? ⟨b, 3, none⟩ = false := by simp [World.frozen?, HH.out.blk]
  clear HH
  go_wp2_with fail
  refine (W5.out _ H4.out.1.rs).mono ?_
  rintro e v5 ⟨m5, c5, rfl, rd, row⟩
  have A5 : Hid ((∀ a, m5 = some a → v4.heap.size ≤ a.block ∧ a.block < v5.heap.size) ∧ v4.heap.size ≤ v5.heap.size) := ⟨fun a e => by have q := row.lt a.block (by rw [e]; rfl); simpa [World.setCell] using q, by have q := rd.bel.size; simpa [World.setCell] using q⟩
  obtain ⟨R4_1, R4_2, R4_3, R4_4⟩ := H4.out.2
  have HH : Hid (RH w v5 b #[.slice m1 h.node.length c1, .slice m2 h.upF.length c2, .slice m3 h.up.length c3, .slice m4 h.dnF.length c4, .slice none 0 0] lo l.length lc ((a4 : Int) + 4 * (5 * (h.dn.length : Int)))) := H4.out.1.to rd rfl
  have H5 : Hid (RH w (v5.setCell ⟨b, 4, none⟩ (.slice m5 h.dn.length c5)) b #[.slice m1 h.node.length c1, .slice m2 h.upF.length c2, .slice m3 h.up.length c3, .slice m4 h.dnF.length c4, .slice m5 h.dn.length c5] lo l.length lc ((a4 : Int) + 4 * (5 * (h.dn.length : Int))) ∧ (v5.setCell ⟨b, 4, none⟩ (.slice m5 h.dn.length c5)).ownsRow (b + 1) 39 1 (.slice m1 h.node.length c1) h.node.length (Hi.wvs h.node) ∧ (v5.setCell ⟨b, 4, none⟩ (.slice m5 h.dn.length c5)).ownsRow (b + 1) 39 1 (.slice m2 h.upF.length c2) h.upF.length (Hi.wvs h.upF) ∧ (v5.setCell ⟨b, 4, none⟩ (.slice m5 h.dn.length c5)).ownsRow (b + 1) 43 4 (.slice m3 h.up.length c3) h.up.length (Hi.lvs h.up) ∧ (v5.setCell ⟨b, 4, none⟩ (.slice m5 h.dn.length c5)).ownsRow (b + 1) 39 1 (.slice m4 h.dnF.length c4) h.dnF.length (Hi.wvs h.dnF) ∧ (v5.setCell ⟨b, 4, none⟩ (.slice m5 h.dn.length c5)).ownsRow (b + 1) 43 4 (.slice m5 h.dn.length c5) h.dn.length (Hi.lvs h.dn)) := ⟨HH.out.set 4 (.slice m5 h.dn.length c5) rfl, row_set (row_to R4_1 (by have := H4.out.1.lt; omega) rd) (Nat.lt_succ_self b), row_set (row_to R4_2 (by have := H4.out.1.lt; omega) rd) (Nat.lt_succ_self b), row_set (row_to R4_3 (by have := H4.out.1.lt; omega) rd) (Nat.lt_succ_self b), row_set (row_to R4_4 (by have := H4.out.1.lt; omega) rd) (Nat.lt_succ_self b), row_set (row_low row (w_lt_get H4.out.1.blk)) (Nat.lt_succ_self b)⟩
  clear l0 e0 e1 e2 e3 e4 f4 rd row R4_1 R4_2 R4_3 R4_4
  have l0 := w_lt_get HH.out.blk
  obtain ⟨e0, e1, e2, e3, e4⟩ := Hi.five_cells HH.out.blk
  have f5 : v5.frozen? ⟨b, 4, none⟩ = false := by simp [World.frozen?, HH.out.blk]
  clear HH
  go_upto_region 15 with fail
  clear l0 e0 e1 e2 e3 e4 f5
  obtain ⟨V, hV⟩ : ∃ V, (v5.setCell ⟨b, 4, none⟩ (.slice m5 h.dn.length c5)) = V := ⟨_, rfl⟩
  rw [hV] at H5
  rw [hV]
  clear hV
  obtain ⟨e0, e1, e2, e3, e4⟩ := Hi.five_cells H5.out.1.blk
  have l0 := w_lt_get H5.out.1.blk
  obtain ⟨z0, z1, z2, z3, z4⟩ := Hi.five_cells H5.out.1.rs.res
  have lz := w_lt_get H5.out.1.rs.res
  have fz : ∀ i, V.frozen? ⟨w.heap.size, i, none⟩ = false := fun i => by simp [World.frozen?, H5.out.1.rs.res]
  have fz0 := fz 0
  have fz1 := fz 1
  have fz2 := fz 2
  have fz3 := fz 3
  have fz4 := fz 4
  clear fz
  go_wp2
  obtain ⟨G1, G2, G3, G4, G5, G6⟩ := H5.out
  have hS := Hi.set_five G1.rs.res (.slice m1 h.node.length c1) (.slice m2 h.upF.length c2) (.slice m3 h.up.length c3) (.slice m4 h.dnF.length c4) (.slice m5 h.dn.length c5)
  obtain ⟨hf1, hf2⟩ := Hi.five_far V w.heap.size (.slice m1 h.node.length c1) (.slice m2 h.upF.length c2) (.slice m3 h.up.length c3) (.slice m4 h.dnF.length c4) (.slice m5 h.dn.length c5)
  have hbb : Below w.heap.size w (((((V.setCell ⟨w.heap.size, 0, none⟩ (.slice m1 h.node.length c1)).setCell ⟨w.heap.size, 1, none⟩ (.slice m2 h.upF.length c2)).setCell ⟨w.heap.size, 2, none⟩ (.slice m3 h.up.length c3)).setCell ⟨w.heap.size, 3, none⟩ (.slice m4 h.dnF.length c4)).setCell ⟨w.heap.size, 4, none⟩ (.slice m5 h.dn.length c5)) := ((((G1.rs.bel.setCell (p := ⟨w.heap.size, 0, none⟩) (Nat.le_refl _) _).setCell (p := ⟨w.heap.size, 1, none⟩) (Nat.le_refl _) _).setCell (p := ⟨w.heap.size, 2, none⟩) (Nat.le_refl _) _).setCell (p := ⟨w.heap.size, 3, none⟩) (Nat.le_refl _) _).setCell (p := ⟨w.heap.size, 4, none⟩) (Nat.le_refl _) _
  refine bodyPost_ret (hier_res hS rfl) rfl ⟨⟨m1, m2, m3, m4, m5, c1, c2, c3, c4, c5⟩, rfl, ?_⟩
  have hlt := G1.lt
  have kp : ∀ {T : TypeId} {zz n : Nat} {vv : Value} {xs : List Value}, V.ownsRow (b + 1) T zz vv n xs → (((((V.setCell ⟨w.heap.size, 0, none⟩ (.slice m1 h.node.length c1)).setCell ⟨w.heap.size, 1, none⟩ (.slice m2 h.upF.length c2)).setCell ⟨w.heap.size, 2, none⟩ (.slice m3 h.up.length c3)).setCell ⟨w.heap.size, 3, none⟩ (.slice m4 h.dnF.length c4)).setCell ⟨w.heap.size, 4, none⟩ (.slice m5 h.dn.length c5)).ownsRow w.heap.size T zz vv n xs := fun ho => row_low (Hi.own_keep ho fun k cur hk hh => (hf1 k (by have := ho.lt k hk; omega)).trans hh) (by omega)
  refine ⟨⟨kp G2, kp G3, kp G4, kp G5, kp G6⟩, hbb, ?_⟩
  have s2 := A2.out.2
  have s3 := A3.out.2
  have s4 := A4.out.2
  refine ⟨fun a b e1 e2 => ?_, fun a b e1 e2 => ?_, fun a b e1 e2 => ?_⟩
  · have q1 := (A1.out.1 a e1).2
    have q2 := (A2.out.1 b e2).1
    omega
  · have q1 := (A2.out.1 a e1).2
    have q2 := (A4.out.1 b e2).1
    omega
  · have q1 := (A1.out.1 a e1).2
    have q2 := (A4.out.1 b e2).1
    omega
theorem hierOf_good (lo : Option Addr) (lc : Nat) (l : List Nat) (h : Hi.Hr) (w : World) (hl : HasB w (.slice lo l.length lc) l) (hcap : l.length ≤ lc) (hi : ImgOk l h) (hf : HasFours w) (hg : 1 < w.heap.size) (ku : ∀ x ∈ h.up, x.ok) (kd : ∀ x ∈ h.dn, x.ok) :
    Calls Tryz.prog 18 #[.slice lo l.length lc] w fun e w' => ∃ u, e = .returned (Hi.hvl u h) ∧ Hi.OwnH w' w.heap.size u h ∧ Below w.heap.size w w' := by
  refine (hierOf_goodA lo lc l h w hl hcap hi hf hg ku kd).mono ?_
  rintro e w' ⟨u, rfl, h1, h2, _⟩
  exact ⟨u, rfl, h1, h2⟩
end Go.Proofs.YtamedcnjanichabGreatDoor

namespace Go.Proofs.YtamedcnjanichabGreatDoor
open Go.RowKit Go.Extern Cr

attribute [local go_sem] Oper.semAt_some

theorem decode1_idle (p q : Addr) (w : World) :
    CallsD Tryz.prog 16 #[.pointer (some p), .pointer (some q)] .returning w fun e u' w' => e = .returned (.tuple #[]) ∧ u' = .returning ∧ w' = w := by
  refine callsD_of_wpS Tryz.func16 rfl fun c₀ cs hu => ?_
  apply wpS_seq
  apply wpS_region
  simp [wpOpsS, go_sem, recoverD, hu, Tryz.ntmps16, Exit.thenS]
  apply wpS_seq
  apply wpS_region
  simp [wpOpsS, go_sem, Exit.thenS]
  refine wpS_cond (t := false) (by simp [Act.eval, Array.replicate]) ?_
  simp only [Bool.false_eq_true, if_false]
  refine wpS_of_wp (wp_skip ?_)
  cases c₀
  simp_all [bodyPostS, results, Tryz.results16]

set_option maxRecDepth 100000 in
set_option maxHeartbeats 4000000 in
theorem decode_goodA (lo : Option Addr) (lc : Nat) (l : List Nat) (h : Hi.Hr) (w : World) (hl : HasB w (.slice lo l.length lc) l) (hcap : l.length ≤ lc) (hi : ImgOk l h) (hf : HasFours w) (hg : 1 < w.heap.size) (k1 : ∀ x ∈ h.node, x < 4294967296) (k2 : ∀ x ∈ h.upF, x < 4294967296) (k3 : ∀ x ∈ h.up, x.ok) (k4 : ∀ x ∈ h.dnF, x < 4294967296) (k5 : ∀ x ∈ h.dn, x.ok) (hc : Hi.chk h = (0, [])) :
    Calls Tryz.prog 6 #[.slice lo l.length lc] w fun e w' => ∃ u, e = .returned (.tuple #[Hi.hvl u h, .nilIface]) ∧ Hi.OwnH w' w.heap.size u h ∧ Below w.heap.size w w' ∧ Ap3 u := by
  have hmf : ∀ (fn : Fn) (first cap : Array Value) (w : World), (Instr.makeFunc fn first cap).run Tryz.prog w = .ok (.func fn first cap) w := fun _ _ _ _ => rfl
  have hn := hi.sm.n
  have hu := hi.sm.u
  have hd := hi.sm.d
  obtain ⟨W0, hW0⟩ : ∃ W0, (w.alloc (.cells #[.slice none 0 0, .slice none 0 0, .slice none 0 0, .slice none 0 0, .slice none 0 0] 25)).alloc (.cells #[.nilIface] 30) = W0 := ⟨_, rfl⟩
  have HW0 : Hid ((w.alloc (.cells #[.slice none 0 0, .slice none 0 0, .slice none 0 0, .slice none 0 0, .slice none 0 0] 25)).alloc (.cells #[.nilIface] 30) = W0) := hW0
  obtain ⟨g0, g1, g2⟩ := two_newI w (.cells #[.slice none 0 0, .slice none 0 0, .slice none 0 0, .slice none 0 0, .slice none 0 0] 25) (.cells #[.nilIface] 30)
  rw [hW0] at g0 g1 g2
  have HX : Hid (∀ wx, Below W0.heap.size W0 wx → wx.heap[w.heap.size]? = some (.cells #[.slice none 0 0, .slice none 0 0, .slice none 0 0, .slice none 0 0, .slice none 0 0] 25 (0, 0)) ∧ wx.heap[w.heap.size + 1]? = some (.cells #[.nilIface] 30 (0, 0)) ∧ Below w.heap.size w wx) := fun wx hx => ⟨(hx.block _ (w_lt_get g0)).trans g0, (hx.block _ (w_lt_get g1)).trans g1, g2.trans (hx.mono g2.size)⟩
  have HH : Hid (Calls Tryz.prog 18 #[.slice lo l.length lc] W0 fun e w' => ∃ u, e = .returned (Hi.hvl u h) ∧ Hi.OwnH w' W0.heap.size u h ∧ Below W0.heap.size W0 w' ∧ Ap3 u) := hierOf_goodA lo lc l h W0 (hl.keep g2) hcap hi (fours_keep hf hg g2) (Nat.lt_of_lt_of_le hg g2.size) k3 k5
  have HCK : Hid (∀ (u : Hi.HV) (wx : World), Hi.HasH wx u h → Calls Tryz.prog 19 #[Hi.hvl u h] wx fun e w' => e = .returned .nilIface ∧ Below wx.heap.size wx w') := fun u wx hx => by
    refine (Hi.check_calls u h wx hx (by omega) (by omega) (by omega)).mono ?_
    rintro e w' ⟨v, rfl, hv, hb⟩
    rw [hc] at hv
    obtain rfl := told_nil hv
    exact ⟨rfl, hb⟩
  have HOK : Hid (∀ (u : Hi.HV) (wx : World) (B : Nat), Hi.OwnH wx B u h → Hi.HasH wx u h) := fun u wx B g => ⟨Hi.ws_of_own g.node k1, Hi.ws_of_own g.upF k2, Hi.ls_of_own g.up k3, Hi.ws_of_own g.dnF k4, Hi.ls_of_own g.dn k5⟩
  have lz := w_lt_get g1
  clear g0 g1 g2 hW0 hl hi hf hg k1 k2 k3 k4 k5 hc
  unfold Hi.hvl at HH HCK
  unfold Hi.hvl
  go_enter_defers Tryz.func6, Tryz.ntmps6
  go_upto_region 2 with fail
  rw [HW0.out]
  go_wp2_with fail
  refine HH.out.mono ?_
  rintro e w1 ⟨⟨m1, m2, m3, m4, m5, c1, c2, c3, c4, c5⟩, rfl, ho, hb, hap⟩
  have YAP : Hid (Ap3 ⟨m1, m2, m3, m4, m5, c1, c2, c3, c4, c5⟩) := hap
  clear hap
  have Y1 : Hid (Below W0.heap.size W0 w1 ∧ Hi.OwnH w1 W0.heap.size ⟨m1, m2, m3, m4, m5, c1, c2, c3, c4, c5⟩ h) := ⟨hb, ho⟩
  clear ho hb lz
  simp only
  obtain ⟨W2, hW2⟩ : ∃ W2, w1.alloc (.cells #[.slice m1 h.node.length c1, .slice m2 h.upF.length c2, .slice m3 h.up.length c3, .slice m4 h.dnF.length c4, .slice m5 h.dn.length c5] 25) = W2 := ⟨_, rfl⟩
  have HW2 : Hid (w1.alloc (.cells #[.slice m1 h.node.length c1, .slice m2 h.upF.length c2, .slice m3 h.up.length c3, .slice m4 h.dnF.length c4, .slice m5 h.dn.length c5] 25) = W2) := hW2
  have b2 : Below w1.heap.size w1 W2 := by rw [← hW2]; exact (Below.refl _ _).alloc (Nat.le_refl _) _
  have n2 : W2.heap[w1.heap.size]? = some (.cells #[.slice m1 h.node.length c1, .slice m2 h.upF.length c2, .slice m3 h.up.length c3, .slice m4 h.dnF.length c4, .slice m5 h.dn.length c5] 25) := by rw [← hW2]; exact heap_new _ _
  go_upto_region 3 with fail
  have HN : Hid (∀ wx, Below W2.heap.size W2 wx → wx.heap[w1.heap.size]? = some (.cells #[.slice m1 h.node.length c1, .slice m2 h.upF.length c2, .slice m3 h.up.length c3, .slice m4 h.dnF.length c4, .slice m5 h.dn.length c5] 25) ∧ Below W0.heap.size W0 wx ∧ Below w1.heap.size w1 wx) := fun wx hx => ⟨(hx.block _ (w_lt_get n2)).trans n2, btrI Y1.out.1 (btrI b2 hx), btrI b2 hx⟩
  have HUP : Hid (∀ wx, Below w1.heap.size w1 wx → Hi.OwnH wx W0.heap.size ⟨m1, m2, m3, m4, m5, c1, c2, c3, c4, c5⟩ h) := fun wx hx => by
    have kp : ∀ {T : TypeId} {zz n : Nat} {vv : Value} {xs : List Value}, w1.ownsRow W0.heap.size T zz vv n xs → wx.ownsRow W0.heap.size T zz vv n xs := fun ho => Hi.own_keep ho fun k cur hk hh => (hx.block k (ho.lt k hk).2).trans hh
    obtain ⟨q1, q2, q3, q4, q5⟩ := Y1.out.2
    exact ⟨kp q1, kp q2, kp q3, kp q4, kp q5⟩
  obtain ⟨d0, d1, d2, d3, d4⟩ := Hi.five_cells (HN.out W2 (Below.refl _ _)).1
  have ld := w_lt_get (HN.out W2 (Below.refl _ _)).1
  clear hW2 b2 n2
  go_wp2_with fail
  refine (HCK.out ⟨m1, m2, m3, m4, m5, c1, c2, c3, c4, c5⟩ _ (HOK.out _ _ _ (HUP.out W2 (HN.out W2 (Below.refl _ _)).2.2))).mono ?_
  rintro e w3 ⟨rfl, hb⟩
  have Y3 : Hid (Below W2.heap.size W2 w3) := hb
  clear hb d0 d1 d2 d3 d4 ld
  obtain ⟨d0, d1, d2, d3, d4⟩ := Hi.five_cells (HN.out w3 Y3.out).1
  have ld := w_lt_get (HN.out w3 Y3.out).1
  obtain ⟨x1, x2, x3⟩ := HX.out w3 (HN.out w3 Y3.out).2.1
  obtain ⟨z0, z1, z2, z3, z4⟩ := Hi.five_cells x1
  have lz := w_lt_get x1
  have le := w_lt_get x2
  have ez : w3.cell? ⟨w.heap.size + 1, 0, none⟩ = some .nilIface := by simp [World.cell?, x2]
  have ef : w3.frozen? ⟨w.heap.size + 1, 0, none⟩ = false := by simp [World.frozen?, x2]
  have fz : ∀ i, w3.frozen? ⟨w.heap.size, i, none⟩ = false := fun i => by simp [World.frozen?, x1]
  have fz0 := fz 0
  have fz1 := fz 1
  have fz2 := fz 2
  have fz3 := fz 3
  have fz4 := fz 4
  have XH : Hid (w3.heap[w.heap.size]? = some (.cells #[.slice none 0 0, .slice none 0 0, .slice none 0 0, .slice none 0 0, .slice none 0 0] 25 (0, 0)) ∧ w3.heap[w.heap.size + 1]? = some (.cells #[.nilIface] 30 (0, 0)) ∧ Below w.heap.size w w3) := ⟨x1, x2, x3⟩
  clear fz x1 x2 x3
  go_wp2
  refine leaves_cons (f := 16) (args := #[.pointer (some ⟨w.heap.size, 0, none⟩), .pointer (some ⟨w.heap.size + 1, 0, none⟩)]) (by simp) (by simp [go_sem]) ?_
  refine (decode1_idle ⟨w.heap.size, 0, none⟩ ⟨w.heap.size + 1, 0, none⟩ _).mono ?_
  rintro e u' w'' ⟨rfl, rfl, rfl⟩
  obtain ⟨x1, x2, x3⟩ := XH.out
  have hS := Hi.set_five x1 (.slice m1 h.node.length c1) (.slice m2 h.upF.length c2) (.slice m3 h.up.length c3) (.slice m4 h.dnF.length c4) (.slice m5 h.dn.length c5)
  obtain ⟨hf1, hf2⟩ := Hi.five_far w3 w.heap.size (.slice m1 h.node.length c1) (.slice m2 h.upF.length c2) (.slice m3 h.up.length c3) (.slice m4 h.dnF.length c4) (.slice m5 h.dn.length c5)
  have hbb : Below w.heap.size w (((((w3.setCell ⟨w.heap.size, 0, none⟩ (.slice m1 h.node.length c1)).setCell ⟨w.heap.size, 1, none⟩ (.slice m2 h.upF.length c2)).setCell ⟨w.heap.size, 2, none⟩ (.slice m3 h.up.length c3)).setCell ⟨w.heap.size, 3, none⟩ (.slice m4 h.dnF.length c4)).setCell ⟨w.heap.size, 4, none⟩ (.slice m5 h.dn.length c5)) := ((((x3.setCell (p := ⟨w.heap.size, 0, none⟩) (Nat.le_refl _) _).setCell (p := ⟨w.heap.size, 1, none⟩) (Nat.le_refl _) _).setCell (p := ⟨w.heap.size, 2, none⟩) (Nat.le_refl _) _).setCell (p := ⟨w.heap.size, 3, none⟩) (Nat.le_refl _) _).setCell (p := ⟨w.heap.size, 4, none⟩) (Nat.le_refl _) _
  have kp : ∀ {T : TypeId} {zz n : Nat} {vv : Value} {xs : List Value}, w3.ownsRow W0.heap.size T zz vv n xs → (((((w3.setCell ⟨w.heap.size, 0, none⟩ (.slice m1 h.node.length c1)).setCell ⟨w.heap.size, 1, none⟩ (.slice m2 h.upF.length c2)).setCell ⟨w.heap.size, 2, none⟩ (.slice m3 h.up.length c3)).setCell ⟨w.heap.size, 3, none⟩ (.slice m4 h.dnF.length c4)).setCell ⟨w.heap.size, 4, none⟩ (.slice m5 h.dn.length c5)).ownsRow W0.heap.size T zz vv n xs := fun ho => Hi.own_keep ho fun k cur hk hh => (hf1 k (by have := ho.lt k hk; have := w_lt_get (HX.out W0 (Below.refl _ _)).1; omega)).trans hh
  have hE : (((((w3.setCell ⟨w.heap.size, 0, none⟩ (.slice m1 h.node.length c1)).setCell ⟨w.heap.size, 1, none⟩ (.slice m2 h.upF.length c2)).setCell ⟨w.heap.size, 2, none⟩ (.slice m3 h.up.length c3)).setCell ⟨w.heap.size, 3, none⟩ (.slice m4 h.dnF.length c4)).setCell ⟨w.heap.size, 4, none⟩ (.slice m5 h.dn.length c5)).heap[w.heap.size + 1]? = some (.cells #[.nilIface] 30 (0, 0)) := (hf1 _ (by omega)).trans x2
  obtain ⟨q1, q2, q3, q4, q5⟩ := HUP.out w3 (HN.out w3 Y3.out).2.2
  have r1 := kp q1
  have r2 := kp q2
  have r3 := kp q3
  have r4 := kp q4
  have r5 := kp q5
  have hlt := w_lt_get (HX.out W0 (Below.refl _ _)).1
  clear kp hf1 hf2
  generalize (((((w3.setCell ⟨w.heap.size, 0, none⟩ (.slice m1 h.node.length c1)).setCell ⟨w.heap.size, 1, none⟩ (.slice m2 h.upF.length c2)).setCell ⟨w.heap.size, 2, none⟩ (.slice m3 h.up.length c3)).setCell ⟨w.heap.size, 3, none⟩ (.slice m4 h.dnF.length c4)).setCell ⟨w.heap.size, 4, none⟩ (.slice m5 h.dn.length c5)) = WE at *
  have fin : Hid (∀ WF : World, WF = WE.setCell ⟨w.heap.size + 1, 0, none⟩ .nilIface → WF.heap[w.heap.size]? = some (.cells #[.slice m1 h.node.length c1, .slice m2 h.upF.length c2, .slice m3 h.up.length c3, .slice m4 h.dnF.length c4, .slice m5 h.dn.length c5] 25 (0, 0)) ∧ WF.heap[w.heap.size + 1]? = some (.cells #[.nilIface] 30 (0, 0)) ∧ Hi.OwnH WF w.heap.size ⟨m1, m2, m3, m4, m5, c1, c2, c3, c4, c5⟩ h ∧ Below w.heap.size w WF) := by
    rintro WF rfl
    have hW1 := w_lt_get (HX.out W0 (Below.refl _ _)).2.1
    refine ⟨?_, ?_, ⟨row_low (row_set r1 hW1) (Nat.le_of_lt hlt), row_low (row_set r2 hW1) (Nat.le_of_lt hlt), row_low (row_set r3 hW1) (Nat.le_of_lt hlt), row_low (row_set r4 hW1) (Nat.le_of_lt hlt), row_low (row_set r5 hW1) (Nat.le_of_lt hlt)⟩, hbb.setCell (p := ⟨w.heap.size + 1, 0, none⟩) (show w.heap.size ≤ w.heap.size + 1 by omega) _⟩
    · have hne : w.heap.size ≠ w.heap.size + 1 := by omega
      have e : (WE.setCell ⟨w.heap.size + 1, 0, none⟩ .nilIface).heap[w.heap.size]? = WE.heap[w.heap.size]? := by first | exact heap_setCell_other _ _ _ _ hne | exact heap_setCell_other _ _ _ _ hne.symm
      exact e.trans hS
    · rw [heap_setCell_same WE (w.heap.size + 1) 0 _ 30 .nilIface hE]
      rfl
  obtain ⟨p1, p2, p3, p4⟩ := fin.out _ rfl
  clear fin r1 r2 r3 r4 r5 q1 q2 q3 q4 q5 hE hS hbb
  generalize WE.setCell ⟨w.heap.size + 1, 0, none⟩ .nilIface = WF at *
  obtain ⟨t0, t1, t2, t3, t4⟩ := Hi.five_cells p1
  have t5 : WF.cell? ⟨w.heap.size + 1, 0, none⟩ = some .nilIface := by simp [World.cell?, p2]
  simp [Leaves, settle, results, Tryz.results6, go_sem, t0, t1, t2, t3, t4, t5]
  exact ⟨⟨m1, m2, m3, m4, m5, c1, c2, c3, c4, c5⟩, by simp, p3, p4, YAP.out⟩
theorem decode_good (lo : Option Addr) (lc : Nat) (l : List Nat) (h : Hi.Hr) (w : World) (hl : HasB w (.slice lo l.length lc) l) (hcap : l.length ≤ lc) (hi : ImgOk l h) (hf : HasFours w) (hg : 1 < w.heap.size) (k1 : ∀ x ∈ h.node, x < 4294967296) (k2 : ∀ x ∈ h.upF, x < 4294967296) (k3 : ∀ x ∈ h.up, x.ok) (k4 : ∀ x ∈ h.dnF, x < 4294967296) (k5 : ∀ x ∈ h.dn, x.ok) (hc : Hi.chk h = (0, [])) :
    Calls Tryz.prog 6 #[.slice lo l.length lc] w fun e w' => ∃ u, e = .returned (.tuple #[Hi.hvl u h, .nilIface]) ∧ Hi.OwnH w' w.heap.size u h ∧ Below w.heap.size w w' := by
  refine (decode_goodA lo lc l h w hl hcap hi hf hg k1 k2 k3 k4 k5 hc).mono ?_
  rintro e w' ⟨u, rfl, h1, h2, _⟩
  exact ⟨u, rfl, h1, h2⟩
end Go.Proofs.YtamedcnjanichabGreatDoor

namespace Go.Proofs.YtamedcnjanichabGreatDoor
open Go.RowKit Go.Extern Cr

attribute [local go_sem] Oper.semAt_some

def greatI (h : Hi.Hr) : Bool := decide (2000 < h.up.length + h.dn.length) && decide (h.up.length + h.dn.length ≤ 1048576)
set_option maxRecDepth 100000 in
set_option maxHeartbeats 2000000 in
theorem great19_calls (v : Hi.HV) (h : Hi.Hr) (w : World) (hb1 : h.up.length ≤ 1152921504606846976) (hb2 : h.dn.length ≤ 1152921504606846976) :
    Calls Tryz.prog 5 #[Hi.hvl v h] w fun e w' => e = .returned (.bool (greatI h)) ∧ Below w.heap.size w w' := by
  obtain ⟨W0, hW0⟩ : ∃ W0, w.alloc (.cells (Hi.cellsH v h) 25) = W0 := ⟨_, rfl⟩
  have h0 : ∀ wx, Below W0.heap.size W0 wx → wx.heap[w.heap.size]? = some (.cells (Hi.cellsH v h) 25) ∧ Below w.heap.size w wx := fun wx hx => by
    have h1 : W0.heap[w.heap.size]? = some (.cells (Hi.cellsH v h) 25) := by rw [← hW0]; exact heap_new _ _
    have h2 : Below w.heap.size w W0 := by rw [← hW0]; exact (Below.refl _ _).alloc (Nat.le_refl _) _
    exact ⟨(hx.block _ (w_lt_get h1)).trans h1, h2.trans (hx.mono h2.size)⟩
  have HW0 : Hid (w.alloc (.cells (Hi.cellsH v h) 25) = W0) := hW0
  have H0 : Hid (type_of% h0) := h0
  have HC : Hid (∀ wx, Calls Tryz.prog 15 #[Hi.hvl v h] wx fun e w' => e = .returned (.int .i64 ((h.up.length + h.dn.length : Nat) : Int)) ∧ w' = wx.alloc (.cells (Hi.cellsH v h) 25)) := fun wx => Hi.count_calls v h wx hb1 hb2
  obtain ⟨c0, c1, c2, c3, c4⟩ := Hi.five_cells (h0 W0 (Below.refl _ _)).1
  clear hW0 h0
  unfold Hi.hvl at HC ⊢
  unfold greatI
  generalize hc : h.up.length + h.dn.length = C at *
  have HS : Hid (w.heap.size < W0.heap.size) := w_lt_get (H0.out W0 (Below.refl _ _)).1
  unfold Hi.cellsH at HW0
  go_enter Tryz.func5, Tryz.ntmps5
  go_upto_region 1 with fail
  rw [HW0.out]
  by_cases g1 : 2000 < C
  · have d1 : decide ((C : Int) > 2000) = true := by simp; omega
    by_cases g2 : C ≤ 1048576
    · have d2 : decide ((C : Int) ≤ 1048576) = true := by simp; omega
      go_wp2_with (go_at_call 15; refine (HC.out _).mono ?_; rintro e w' ⟨rfl, rfl⟩; obtain ⟨k0, k1, k2, k3, k4⟩ := Hi.five_cells (H0.out _ ((Below.refl _ W0).alloc (Nat.le_refl _) (.cells (Hi.cellsH v h) 25))).1)
      go_ret
      exact ⟨by rw [decide_eq_true g1, decide_eq_true g2]; rfl, (H0.out _ (((Below.refl _ W0).alloc (Nat.le_refl _) _).alloc (by simp) _)).2⟩
    · have d2 : decide ((C : Int) ≤ 1048576) = false := by simp; omega
      go_wp2_with (go_at_call 15; refine (HC.out _).mono ?_; rintro e w' ⟨rfl, rfl⟩; obtain ⟨k0, k1, k2, k3, k4⟩ := Hi.five_cells (H0.out _ ((Below.refl _ W0).alloc (Nat.le_refl _) (.cells (Hi.cellsH v h) 25))).1)
      go_ret
      exact ⟨by rw [decide_eq_true g1, decide_eq_false g2]; rfl, (H0.out _ (((Below.refl _ W0).alloc (Nat.le_refl _) _).alloc (by simp) _)).2⟩
  · have d1 : decide ((C : Int) > 2000) = false := by simp; omega
    go_wp2_with (go_at_call 15; refine (HC.out _).mono ?_; rintro e w' ⟨rfl, rfl⟩; obtain ⟨k0, k1, k2, k3, k4⟩ := Hi.five_cells (H0.out _ ((Below.refl _ W0).alloc (Nat.le_refl _) (.cells (Hi.cellsH v h) 25))).1)
    go_ret
    exact ⟨by rw [decide_eq_false g1]; rfl, (H0.out _ ((Below.refl _ W0).alloc (Nat.le_refl _) _)).2⟩
theorem ws_some {w : World} {o : Option Addr} {n c a : Nat} {l : List Nat} (h : Hi.HasWs w (.slice o n c) l) (h0 : l[0]? = some a) : o = none → c = 0 := by
  obtain ⟨ao, cap, e, _, hc⟩ := h
  injection e with e1 _ _
  obtain ⟨_, b, off, e2, _⟩ := hc 0 a h0
  rintro rfl
  rw [← e1] at e2
  cases e2
theorem nil_three {w : World} {v : Hi.HV} (h : Hi.HasH w v Hi.three) : NilH v := ⟨ws_some h.node rfl, ws_some h.upF rfl, ws_some h.dnF rfl⟩

set_option maxRecDepth 100000 in
set_option maxHeartbeats 4000000 in
theorem awake19_calls (w : World) (hf : HasFours w) (hg : 1 < w.heap.size) : Calls Tryz.prog 4 #[] w fun e w' => e = .returned (.bool true) ∧ Below w.heap.size w w' := by
  have hnl := fun (wx : World) (v : Hi.HV) (q : Hi.HasH wx v Hi.three) => nil_three q
  have k1 : ∀ x ∈ Hi.three.node, x < 4294967296 := by decide
  have k2 : ∀ x ∈ Hi.three.upF, x < 4294967296 := by decide
  have k3 : ∀ x ∈ Hi.three.up, x.ok := by unfold Hi.Lk.ok; decide
  have k4 : ∀ x ∈ Hi.three.dnF, x < 4294967296 := by decide
  have k5 : ∀ x ∈ Hi.three.dn, x.ok := by unfold Hi.Lk.ok; decide
  have kl : Hi.three.node.length = 3 ∧ Hi.three.up.length = 2 ∧ Hi.three.dn.length = 1 ∧ Hi.three.upF.length = 4 ∧ Hi.three.dnF.length = 4 := ⟨rfl, rfl, rfl, rfl, rfl⟩
  have hc := Hi.chk_three
  have h3 := fun wx => Hi.three_calls wx
  generalize Hi.three = H at *
  have hs := small_of_chk hc
  have HT : Hid (∀ wx, Calls Tryz.prog 13 #[] wx fun e w' => ∃ v : Hi.HV, e = .returned (.agg #[.slice v.no H.node.length v.nc, .slice v.uo H.upF.length v.uc, .slice v.ul H.up.length v.ulc, .slice v.wo H.dnF.length v.wc, .slice v.dl H.dn.length v.dlc]) ∧ Hi.HasH w' v H ∧ Below wx.heap.size wx w') := h3
  have HSH : Hid (Hi.Short H) := ⟨by omega, by omega, by omega, by omega, by omega⟩
  have HFR : Hid (∀ wx, Below w.heap.size w wx → HasFours wx ∧ 1 < wx.heap.size) := fun wx hb => ⟨fours_keep hf hg hb, Nat.lt_of_lt_of_le hg hb.size⟩
  have hokW : ∀ x ∈ imW H, x < 4294967296 := by
    intro x hx
    unfold imW at hx
    simp only [List.mem_append, List.mem_cons, List.not_mem_nil, or_false] at hx
    rcases hx with (((((rfl | rfl | rfl) | hx) | hx) | hx) | hx) | hx
    · omega
    · omega
    · omega
    · exact k1 x hx
    · exact k2 x hx
    · exact lksW_ok k3 x hx
    · exact k4 x hx
    · exact lksW_ok k5 x hx
  have hok := imB_ok hs hokW
  have h128 : (imB H).length = 128 := by rw [hok.len]; omega
  have HEN : Hid (∀ wx (v : Hi.HV), Below w.heap.size w wx → Hi.HasH wx v H → Calls Tryz.prog 8 #[(.agg #[.slice v.no H.node.length v.nc, .slice v.uo H.upF.length v.uc, .slice v.ul H.up.length v.ulc, .slice v.wo H.dnF.length v.wc, .slice v.dl H.dn.length v.dlc])] wx fun e w' => ∃ mo mc, e = .returned (.tuple #[.slice mo 128 mc, .nilIface]) ∧ HasB w' (.slice mo 128 mc) (imB H) ∧ Below wx.heap.size wx w') := fun wx v hb hv => by
    refine (encode_good v H wx hv (hnl wx v hv) hc (HFR.out wx hb).1 (HFR.out wx hb).2).mono ?_
    rintro e w' ⟨mo, mc, rfl, ho, hb2⟩
    have q := hasB_own ho
    rw [h128] at q ⊢
    exact ⟨mo, mc, rfl, q, hb2⟩
  have HRW : Hid (∀ wx (v : Hi.HV), Hi.HasH wx v H → Calls Tryz.prog 14 #[(.agg #[.slice v.no H.node.length v.nc, .slice v.uo H.upF.length v.uc, .slice v.ul H.up.length v.ulc, .slice v.wo H.dnF.length v.wc, .slice v.dl H.dn.length v.dlc])] wx fun e w' => ∃ mo mc, e = .returned (.slice mo 128 mc) ∧ (HasB w' (.slice mo 128 mc) (imB H) ∧ 128 ≤ mc) ∧ Below wx.heap.size wx w') := fun wx v hv => by
    refine (raw_calls v H wx hv hs).mono ?_
    rintro e w' ⟨mo, mc, rfl, ho, hb2⟩
    have q := hasB_own ho
    have q2 := (own_cap ho).1
    rw [h128] at q q2 ⊢
    exact ⟨mo, mc, rfl, ⟨q, q2⟩, hb2⟩
  have HDE : Hid (∀ wx lo lc, Below w.heap.size w wx → HasB wx (.slice lo 128 lc) (imB H) → 128 ≤ lc → Calls Tryz.prog 6 #[.slice lo 128 lc] wx fun e w' => ∃ u : Hi.HV, e = .returned (.tuple #[(.agg #[.slice u.no H.node.length u.nc, .slice u.uo H.upF.length u.uc, .slice u.ul H.up.length u.ulc, .slice u.wo H.dnF.length u.wc, .slice u.dl H.dn.length u.dlc]), .nilIface]) ∧ Hi.HasH w' u H ∧ Below wx.heap.size wx w') := fun wx lo lc hb hl hcp => by
    have q := decode_good lo lc (imB H) H wx (by rw [h128]; exact hl) (by rw [h128]; exact hcp) hok (HFR.out wx hb).1 (HFR.out wx hb).2 k1 k2 k3 k4 k5 hc
    rw [h128] at q
    refine q.mono ?_
    rintro e w' ⟨u, rfl, g, hb2⟩
    exact ⟨u, rfl, ⟨Hi.ws_of_own g.node k1, Hi.ws_of_own g.upF k2, Hi.ls_of_own g.up k3, Hi.ws_of_own g.dnF k4, Hi.ls_of_own g.dn k5⟩, hb2⟩
  have HKS : Hid (∀ wx ao ac bo bc, HasB wx (.slice ao 128 ac) (imB H) → HasB wx (.slice bo 128 bc) (imB H) → Calls Tryz.prog 9 #[.slice ao 128 ac, .slice bo 128 bc] wx fun e w' => e = .returned (.bool true) ∧ w' = wx) := fun wx ao ac bo bc h1 h2 => by
    have q := kSame_calls ao bo ac bc (imB H) wx (by rw [h128]; exact h1) (by rw [h128]; exact h2)
    rw [h128] at q
    exact q
  have HTS : Hid (∀ wx (v u : Hi.HV), Hi.HasH wx v H → Hi.HasH wx u H → Calls Tryz.prog 10 #[(.agg #[.slice v.no H.node.length v.nc, .slice v.uo H.upF.length v.uc, .slice v.ul H.up.length v.ulc, .slice v.wo H.dnF.length v.wc, .slice v.dl H.dn.length v.dlc]), (.agg #[.slice u.no H.node.length u.nc, .slice u.uo H.upF.length u.uc, .slice u.ul H.up.length u.ulc, .slice u.wo H.dnF.length u.wc, .slice u.dl H.dn.length u.dlc])] wx fun e w' => e = .returned (.bool true) ∧ Below wx.heap.size wx w') := fun wx v u h1 h2 => by
    have q := Hi.tSame_calls v u H H wx h1 h2 HSH.out
    rw [decide_eq_true rfl] at q
    exact q
  clear hnl k1 k2 k3 k4 k5 kl hc h3 hs hf hg hokW hok h128
  generalize imB H = Bq at *
  go_enter Tryz.func4, Tryz.ntmps4
  go_wp2_with fail
  refine (HT.out w).mono ?_
  rintro e y1 ⟨v1, rfl, hv, hb⟩
  have Y1 : Hid (Hi.HasH y1 v1 H ∧ Below w.heap.size w y1) := ⟨hv, hb⟩
  clear hv hb
  go_wp2_with fail
  refine (HEN.out y1 v1 Y1.out.2 Y1.out.1).mono ?_
  rintro e y2 ⟨o2, d2, rfl, hB, hb⟩
  have Y2 : Hid (HasB y2 (.slice o2 128 d2) Bq ∧ Below w.heap.size w y2) := ⟨hB, btrI Y1.out.2 hb⟩
  clear hB hb
  go_wp2_with fail
  refine (HT.out y2).mono ?_
  rintro e y3 ⟨v3, rfl, hv, hb⟩
  have Y3 : Hid (Hi.HasH y3 v3 H ∧ Below y2.heap.size y2 y3) := ⟨hv, hb⟩
  clear hv hb
  go_wp2_with fail
  refine (HRW.out y3 v3 Y3.out.1).mono ?_
  rintro e y4 ⟨o4, d4, rfl, hB, hb⟩
  have Y4 : Hid ((HasB y4 (.slice o4 128 d4) Bq ∧ 128 ≤ d4) ∧ Below y2.heap.size y2 y4) := ⟨hB, btrI Y3.out.2 hb⟩
  clear hB hb
  go_wp2_with fail
  refine (HDE.out y4 o4 d4 (btrI Y2.out.2 Y4.out.2) Y4.out.1.1 Y4.out.1.2).mono ?_
  rintro e y5 ⟨⟨m1, m2, m3, m4, m5, c1, c2, c3, c4, c5⟩, rfl, hv, hb⟩
  have Y5 : Hid (Hi.HasH y5 ⟨m1, m2, m3, m4, m5, c1, c2, c3, c4, c5⟩ H ∧ Below y2.heap.size y2 y5) := ⟨hv, btrI Y4.out.2 hb⟩
  clear hv hb
  simp only
  obtain ⟨W6, hW6⟩ : ∃ W6, y5.alloc (.cells #[.slice m1 H.node.length c1, .slice m2 H.upF.length c2, .slice m3 H.up.length c3, .slice m4 H.dnF.length c4, .slice m5 H.dn.length c5] 25) = W6 := ⟨_, rfl⟩
  obtain ⟨b, hbz⟩ : ∃ b, y5.heap.size = b := ⟨_, rfl⟩
  have b6 : Below y5.heap.size y5 W6 := by rw [← hW6]; exact (Below.refl _ _).alloc (Nat.le_refl _) _
  have n6 : W6.heap[b]? = some (.cells #[.slice m1 H.node.length c1, .slice m2 H.upF.length c2, .slice m3 H.up.length c3, .slice m4 H.dnF.length c4, .slice m5 H.dn.length c5] 25) := by rw [← hW6, ← hbz]; exact heap_new _ _
  have HX : Hid (∀ wx, Below W6.heap.size W6 wx → (wx.cell? ⟨b, 0, none⟩ = some (.slice m1 H.node.length c1) ∧ wx.cell? ⟨b, 1, none⟩ = some (.slice m2 H.upF.length c2) ∧ wx.cell? ⟨b, 2, none⟩ = some (.slice m3 H.up.length c3) ∧ wx.cell? ⟨b, 3, none⟩ = some (.slice m4 H.dnF.length c4) ∧ wx.cell? ⟨b, 4, none⟩ = some (.slice m5 H.dn.length c5)) ∧ b < wx.heap.size ∧ Hi.HasH wx ⟨m1, m2, m3, m4, m5, c1, c2, c3, c4, c5⟩ H ∧ HasB wx (.slice o2 128 d2) Bq ∧ Below w.heap.size w wx) := fun wx hx => by
    have q := (hx.block _ (w_lt_get n6)).trans n6
    have p1 := btrI b6 hx
    have p2 := btrI Y5.out.2 p1
    exact ⟨cells5 q, w_lt_get q, Y5.out.1.keep p1, Y2.out.1.keep p2, btrI Y2.out.2 p2⟩
  have HW6 : Hid (y5.alloc (.cells #[.slice m1 H.node.length c1, .slice m2 H.upF.length c2, .slice m3 H.up.length c3, .slice m4 H.dnF.length c4, .slice m5 H.dn.length c5] 25) = W6 ∧ y5.heap.size = b) := ⟨hW6, hbz⟩
  clear hW6 hbz b6 n6
  obtain ⟨⟨e0, e1, e2, e3, e4⟩, lb, _⟩ := HX.out W6 (Below.refl _ _)
  go_upto_region 3 with fail
  rw [HW6.out.1]
  rw [HW6.out.2]
  have Z0 : Hid (Below W6.heap.size W6 W6) := Below.refl _ _
  go_region_held3 (fun w' => w'.cell? ⟨b, 0, none⟩ = some (.slice m1 H.node.length c1) ∧ w'.cell? ⟨b, 1, none⟩ = some (.slice m2 H.upF.length c2) ∧ w'.cell? ⟨b, 2, none⟩ = some (.slice m3 H.up.length c3) ∧ w'.cell? ⟨b, 3, none⟩ = some (.slice m4 H.dnF.length c4) ∧ w'.cell? ⟨b, 4, none⟩ = some (.slice m5 H.dn.length c5)) (go_keep) (first
    | (go_at_call 10; refine (HTS.out z4 ⟨m1, m2, m3, m4, m5, c1, c2, c3, c4, c5⟩ v4 (HX.out z4 Z4.out.1).2.2.1 Z4.out.2).mono ?_; rintro e z5 ⟨rfl, hb⟩; have Z5 : Hid (Below W6.heap.size W6 z5) := btrI Z4.out.1 hb; clear e0 e1 e2 e3 e4 lb hb; obtain ⟨⟨e0, e1, e2, e3, e4⟩, lb, _⟩ := HX.out z5 Z5.out)
    | (go_at_call 13; refine (HT.out z2).mono ?_; rintro e z4 ⟨v4, rfl, hv, hb⟩; have Z4 : Hid (Below W6.heap.size W6 z4 ∧ Hi.HasH z4 v4 H) := ⟨btrI Z2.out.1 hb, hv⟩; clear e0 e1 e2 e3 e4 lb hv hb; obtain ⟨⟨e0, e1, e2, e3, e4⟩, lb, _⟩ := HX.out z4 Z4.out.1)
    | (go_at_call 9; refine (HKS.out z2 _ _ _ _ (HX.out z2 Z2.out.1).2.2.2.1 Z2.out.2).mono ?_; rintro e z3 ⟨rfl, hz⟩; have hz' := hz.symm; clear hz; subst hz')
    | (go_at_call 14; refine (HRW.out z1 v0 Z1.out.2).mono ?_; rintro e z2 ⟨o7, d7, rfl, hB, hb⟩; have Z2 : Hid (Below W6.heap.size W6 z2 ∧ HasB z2 (.slice o7 128 d7) Bq) := ⟨btrI Z1.out.1 hb, hB.1⟩; clear e0 e1 e2 e3 e4 lb hB hb; obtain ⟨⟨e0, e1, e2, e3, e4⟩, lb, _⟩ := HX.out z2 Z2.out.1)
    | (go_at_call 13; refine (HT.out _).mono ?_; rintro e z1 ⟨v0, rfl, hv, hb⟩; have Z1 : Hid (Below W6.heap.size W6 z1 ∧ Hi.HasH z1 v0 H) := ⟨btrI Z0.out.drew hb, hv⟩; clear e0 e1 e2 e3 e4 lb hv hb; obtain ⟨⟨e0, e1, e2, e3, e4⟩, lb, _⟩ := HX.out z1 Z1.out.1))
  go_wp2
  go_ret
  exact ⟨rfl, (HX.out z5 Z5.out).2.2.2.2⟩
end Go.Proofs.YtamedcnjanichabGreatDoor

namespace Go.Proofs.YtamedcnjanichabGreatDoor.Hi
open Go.RowKit Go.Extern

attribute [local go_sem] Oper.semAt_some

theorem own_upO {w w' : World} {B n z : Nat} {T : TypeId} {v : Value} {xs : List Value} (h : w.ownsRow B T z v n xs) (hb : Below w.heap.size w w') : w'.ownsRow B T z v n xs := by
  rcases h.2 with ⟨e, h0⟩ | ⟨g, cap, cur, e, hg, hh, r⟩
  · exact ⟨h.1, .inl ⟨e, h0⟩⟩
  · exact ⟨h.1, .inr ⟨g, cap, cur, e, hg, (hb.block g (some_lt hh)).trans hh, r⟩⟩

theorem own_lowO {w : World} {B B' n z : Nat} {T : TypeId} {v : Value} {xs : List Value} (h : w.ownsRow B T z v n xs) (hb : B' ≤ B) : w.ownsRow B' T z v n xs := by
  rcases h.2 with ⟨e, h0⟩ | ⟨g, cap, cur, e, hg, r⟩
  · exact ⟨h.1, .inl ⟨e, h0⟩⟩
  · exact ⟨h.1, .inr ⟨g, cap, cur, e, Nat.le_trans hb hg, r⟩⟩
set_option maxRecDepth 100000 in
set_option maxHeartbeats 4000000 in
theorem twin_own (v : HV) (h : Hr) (w : World) (hH : HasH w v h) (hr : Reach h) :
    Calls Tryz.prog 7 #[hvl v h] w fun e w' => ∃ u, e = .returned (hvl u h) ∧ OwnH w' w.heap.size u h ∧ Below w.heap.size w w' := by
  obtain ⟨z, hz⟩ : ∃ z, w.heap.size = z := ⟨_, rfl⟩
  obtain ⟨W0, hW0⟩ : ∃ W0, (w.alloc (.cells (cellsH v h) 25)).alloc (.cells #[.slice none 0 0, .slice none 0 0, .slice none 0 0, .slice none 0 0, .slice none 0 0] 25) = W0 := ⟨_, rfl⟩
  have hB0 : Below w.heap.size w W0 := by rw [← hW0]; exact ((Below.refl _ w).alloc (Nat.le_refl _) _).alloc (by simp) _
  have h0 : W0.heap[z]? = some (.cells (cellsH v h) 25) := by
    rw [← hW0, ← hz]; exact (Below.heap_alloc _ _ _ (by simp)).trans (heap_newW _ _)
  have h1 : W0.heap[z + 1]? = some (.cells #[.slice none 0 0, .slice none 0 0, .slice none 0 0, .slice none 0 0, .slice none 0 0] 25) := by
    have g := heap_newW (w.alloc (.cells (cellsH v h) 25)) (.cells #[.slice none 0 0, .slice none 0 0, .slice none 0 0, .slice none 0 0, .slice none 0 0] 25)
    rw [World.size_alloc, hW0, hz] at g
    exact g
  have HB0 : Hid (∀ wx, Below W0.heap.size W0 wx → Below w.heap.size w wx ∧ wx.heap[z + 1]? = some (.cells #[.slice none 0 0, .slice none 0 0, .slice none 0 0, .slice none 0 0, .slice none 0 0] 25)) := fun wx hx => ⟨hB0.trans (hx.mono hB0.size), (hx.block _ (some_lt h1)).trans h1⟩
  have HQ : Hid (∀ wx, Below W0.heap.size W0 wx → wx.cell? ⟨z, 0, none⟩ = some (.slice v.no h.node.length v.nc) ∧ wx.cell? ⟨z, 1, none⟩ = some (.slice v.uo h.upF.length v.uc) ∧ wx.cell? ⟨z, 2, none⟩ = some (.slice v.ul h.up.length v.ulc) ∧ wx.cell? ⟨z, 3, none⟩ = some (.slice v.wo h.dnF.length v.wc) ∧ wx.cell? ⟨z, 4, none⟩ = some (.slice v.dl h.dn.length v.dlc)) := fun wx hx => five_cells ((hx.block _ (some_lt h0)).trans h0)
  have HZ : Hid (∀ wx, Below W0.heap.size W0 wx → (∀ i, i < 5 → wx.cell? ⟨z + 1, i, none⟩ = some (.slice none 0 0)) ∧ ∀ i, wx.frozen? ⟨z + 1, i, none⟩ = false) := fun wx hx => by
    have g := (hx.block _ (some_lt h1)).trans h1
    refine ⟨fun i hi => ?_, fun i => by simp [World.frozen?, g]⟩
    rcases (show i = 0 ∨ i = 1 ∨ i = 2 ∨ i = 3 ∨ i = 4 by omega) with rfl | rfl | rfl | rfl | rfl <;> simp [World.cell?, g]
  have H1 : Hid (∀ wx, Below W0.heap.size W0 wx → Calls Tryz.prog 20 #[.slice v.no h.node.length v.nc] wx fun e w' => ∃ mo mc, e = .returned (.slice mo h.node.length mc) ∧ w'.ownsRow W0.heap.size 39 1 (.slice mo h.node.length mc) h.node.length (wvs h.node) ∧ Below wx.heap.size wx w') := fun wx hx => (twords_calls _ _ _ wx (hH.node.keep (hB0.trans (hx.mono hB0.size))) hr.node).mono (by rintro e w' ⟨mo, mc, rfl, ho, hb⟩; exact ⟨mo, mc, rfl, own_lowO ho hx.size, hb⟩)
  have H2 : Hid (∀ wx, Below W0.heap.size W0 wx → Calls Tryz.prog 20 #[.slice v.uo h.upF.length v.uc] wx fun e w' => ∃ mo mc, e = .returned (.slice mo h.upF.length mc) ∧ w'.ownsRow W0.heap.size 39 1 (.slice mo h.upF.length mc) h.upF.length (wvs h.upF) ∧ Below wx.heap.size wx w') := fun wx hx => (twords_calls _ _ _ wx (hH.upF.keep (hB0.trans (hx.mono hB0.size))) hr.upF).mono (by rintro e w' ⟨mo, mc, rfl, ho, hb⟩; exact ⟨mo, mc, rfl, own_lowO ho hx.size, hb⟩)
  have H3 : Hid (∀ wx, Below W0.heap.size W0 wx → Calls Tryz.prog 21 #[.slice v.ul h.up.length v.ulc] wx fun e w' => ∃ mo mc, e = .returned (.slice mo h.up.length mc) ∧ w'.ownsRow W0.heap.size 43 4 (.slice mo h.up.length mc) h.up.length (lvs h.up) ∧ Below wx.heap.size wx w') := fun wx hx => (tlinks_calls _ _ _ wx (hH.up.keep (hB0.trans (hx.mono hB0.size))) hr.up).mono (by rintro e w' ⟨mo, mc, rfl, ho, hb⟩; exact ⟨mo, mc, rfl, own_lowO ho hx.size, hb⟩)
  have H4 : Hid (∀ wx, Below W0.heap.size W0 wx → Calls Tryz.prog 20 #[.slice v.wo h.dnF.length v.wc] wx fun e w' => ∃ mo mc, e = .returned (.slice mo h.dnF.length mc) ∧ w'.ownsRow W0.heap.size 39 1 (.slice mo h.dnF.length mc) h.dnF.length (wvs h.dnF) ∧ Below wx.heap.size wx w') := fun wx hx => (twords_calls _ _ _ wx (hH.dnF.keep (hB0.trans (hx.mono hB0.size))) hr.dnF).mono (by rintro e w' ⟨mo, mc, rfl, ho, hb⟩; exact ⟨mo, mc, rfl, own_lowO ho hx.size, hb⟩)
  have H5 : Hid (∀ wx, Below W0.heap.size W0 wx → Calls Tryz.prog 21 #[.slice v.dl h.dn.length v.dlc] wx fun e w' => ∃ mo mc, e = .returned (.slice mo h.dn.length mc) ∧ w'.ownsRow W0.heap.size 43 4 (.slice mo h.dn.length mc) h.dn.length (lvs h.dn) ∧ Below wx.heap.size wx w') := fun wx hx => (tlinks_calls _ _ _ wx (hH.dn.keep (hB0.trans (hx.mono hB0.size))) hr.dn).mono (by rintro e w' ⟨mo, mc, rfl, ho, hb⟩; exact ⟨mo, mc, rfl, own_lowO ho hx.size, hb⟩)
  have HW0 : Hid ((w.alloc (.cells (cellsH v h) 25)).alloc (.cells #[.slice none 0 0, .slice none 0 0, .slice none 0 0, .slice none 0 0, .slice none 0 0] 25) = W0) := hW0
  clear hW0 h0 h1 hB0 hH hr
  have Y0 : Hid (Below W0.heap.size W0 W0) := Below.refl _ _
  obtain ⟨a0, a1, a2, a3, a4⟩ := HQ.out W0 Y0.out
  have HZZ : Hid (w.heap.size = z) := hz
  unfold cellsH at HW0
  unfold hvl
  go_enter Tryz.func7, Tryz.ntmps7
  go_upto_region 1 with fail
  rw [HW0.out]
  go_region_held3 (fun w' => w'.cell? ⟨z, 0, none⟩ = some (.slice v.no h.node.length v.nc) ∧ w'.cell? ⟨z, 1, none⟩ = some (.slice v.uo h.upF.length v.uc) ∧ w'.cell? ⟨z, 2, none⟩ = some (.slice v.ul h.up.length v.ulc) ∧ w'.cell? ⟨z, 3, none⟩ = some (.slice v.wo h.dnF.length v.wc) ∧ w'.cell? ⟨z, 4, none⟩ = some (.slice v.dl h.dn.length v.dlc)) (go_keep) (first
    | (go_at_call 21; refine (H5.out _ Y4.out).mono ?_; rintro e y5 ⟨m5, c5, rfl, hh, hy⟩; have Y5 : Hid (Below W0.heap.size W0 y5) := btrH' Y4.out hy; have X5_1 : Hid (y5.ownsRow W0.heap.size 39 1 (.slice m1 h.node.length c1) h.node.length (wvs h.node)) := own_upO X4_1.out hy; have X5_2 : Hid (y5.ownsRow W0.heap.size 39 1 (.slice m2 h.upF.length c2) h.upF.length (wvs h.upF)) := own_upO X4_2.out hy; have X5_3 : Hid (y5.ownsRow W0.heap.size 43 4 (.slice m3 h.up.length c3) h.up.length (lvs h.up)) := own_upO X4_3.out hy; have X5_4 : Hid (y5.ownsRow W0.heap.size 39 1 (.slice m4 h.dnF.length c4) h.dnF.length (wvs h.dnF)) := own_upO X4_4.out hy; have X5_5 : Hid (y5.ownsRow W0.heap.size 43 4 (.slice m5 h.dn.length c5) h.dn.length (lvs h.dn)) := hh; obtain ⟨a0, a1, a2, a3, a4⟩ := HQ.out y5 Y5.out; obtain ⟨k0, k1⟩ := HZ.out y5 Y5.out; have k2 := k0 0 (by omega); have k3 := k0 1 (by omega); have k4 := k0 2 (by omega); have k5 := k0 3 (by omega); have k6 := k0 4 (by omega); have l2 := k1 0; have l3 := k1 1; have l4 := k1 2; have l5 := k1 3; have l6 := k1 4; clear k0 k1; clear hy hh)
    | (go_at_call 20; refine (H4.out _ Y3.out).mono ?_; rintro e y4 ⟨m4, c4, rfl, hh, hy⟩; have Y4 : Hid (Below W0.heap.size W0 y4) := btrH' Y3.out hy; have X4_1 : Hid (y4.ownsRow W0.heap.size 39 1 (.slice m1 h.node.length c1) h.node.length (wvs h.node)) := own_upO X3_1.out hy; have X4_2 : Hid (y4.ownsRow W0.heap.size 39 1 (.slice m2 h.upF.length c2) h.upF.length (wvs h.upF)) := own_upO X3_2.out hy; have X4_3 : Hid (y4.ownsRow W0.heap.size 43 4 (.slice m3 h.up.length c3) h.up.length (lvs h.up)) := own_upO X3_3.out hy; have X4_4 : Hid (y4.ownsRow W0.heap.size 39 1 (.slice m4 h.dnF.length c4) h.dnF.length (wvs h.dnF)) := hh; obtain ⟨a0, a1, a2, a3, a4⟩ := HQ.out y4 Y4.out; clear hy hh)
    | (go_at_call 21; refine (H3.out _ Y2.out).mono ?_; rintro e y3 ⟨m3, c3, rfl, hh, hy⟩; have Y3 : Hid (Below W0.heap.size W0 y3) := btrH' Y2.out hy; have X3_1 : Hid (y3.ownsRow W0.heap.size 39 1 (.slice m1 h.node.length c1) h.node.length (wvs h.node)) := own_upO X2_1.out hy; have X3_2 : Hid (y3.ownsRow W0.heap.size 39 1 (.slice m2 h.upF.length c2) h.upF.length (wvs h.upF)) := own_upO X2_2.out hy; have X3_3 : Hid (y3.ownsRow W0.heap.size 43 4 (.slice m3 h.up.length c3) h.up.length (lvs h.up)) := hh; obtain ⟨a0, a1, a2, a3, a4⟩ := HQ.out y3 Y3.out; clear hy hh)
    | (go_at_call 20; refine (H2.out _ Y1.out).mono ?_; rintro e y2 ⟨m2, c2, rfl, hh, hy⟩; have Y2 : Hid (Below W0.heap.size W0 y2) := btrH' Y1.out hy; have X2_1 : Hid (y2.ownsRow W0.heap.size 39 1 (.slice m1 h.node.length c1) h.node.length (wvs h.node)) := own_upO X1_1.out hy; have X2_2 : Hid (y2.ownsRow W0.heap.size 39 1 (.slice m2 h.upF.length c2) h.upF.length (wvs h.upF)) := hh; obtain ⟨a0, a1, a2, a3, a4⟩ := HQ.out y2 Y2.out; clear hy hh)
    | (go_at_call 20; refine (H1.out _ Y0.out.drew).mono ?_; rintro e y1 ⟨m1, c1, rfl, hh, hy⟩; have Y1 : Hid (Below W0.heap.size W0 y1) := btrH' Y0.out.drew hy; have X1_1 : Hid (y1.ownsRow W0.heap.size 39 1 (.slice m1 h.node.length c1) h.node.length (wvs h.node)) := hh; obtain ⟨a0, a1, a2, a3, a4⟩ := HQ.out y1 Y1.out; clear hy hh))
  go_wp2
  have hS := set_five (HB0.out _ Y5.out).2 (.slice m1 h.node.length c1) (.slice m2 h.upF.length c2) (.slice m3 h.up.length c3) (.slice m4 h.dnF.length c4) (.slice m5 h.dn.length c5)
  obtain ⟨hf1, hf2⟩ := five_far y5 (z + 1) (.slice m1 h.node.length c1) (.slice m2 h.upF.length c2) (.slice m3 h.up.length c3) (.slice m4 h.dnF.length c4) (.slice m5 h.dn.length c5)
  have hlt : z + 1 < W0.heap.size := some_lt (HB0.out _ Y0.out).2
  have hbb : Below w.heap.size w (((((y5.setCell ⟨z + 1, 0, none⟩ (.slice m1 h.node.length c1)).setCell ⟨z + 1, 1, none⟩ (.slice m2 h.upF.length c2)).setCell ⟨z + 1, 2, none⟩ (.slice m3 h.up.length c3)).setCell ⟨z + 1, 3, none⟩ (.slice m4 h.dnF.length c4)).setCell ⟨z + 1, 4, none⟩ (.slice m5 h.dn.length c5)) := (((((HB0.out _ Y5.out).1.setCell (by rw [HZZ.out]; exact Nat.le_succ _) _).setCell (by rw [HZZ.out]; exact Nat.le_succ _) _).setCell (by rw [HZZ.out]; exact Nat.le_succ _) _).setCell (by rw [HZZ.out]; exact Nat.le_succ _) _).setCell (by rw [HZZ.out]; exact Nat.le_succ _) _
  refine bodyPost_ret (twin_res hS rfl) rfl ⟨⟨m1, m2, m3, m4, m5, c1, c2, c3, c4, c5⟩, rfl, ?_, hbb⟩
  generalize ((((y5.setCell ⟨z + 1, 0, none⟩ (.slice m1 h.node.length c1)).setCell ⟨z + 1, 1, none⟩ (.slice m2 h.upF.length c2)).setCell ⟨z + 1, 2, none⟩ (.slice m3 h.up.length c3)).setCell ⟨z + 1, 3, none⟩ (.slice m4 h.dnF.length c4)).setCell ⟨z + 1, 4, none⟩ (.slice m5 h.dn.length c5) = WE at hf1 hf2
  have hs : y5.heap.size ≤ WE.heap.size := Nat.le_of_eq hf2.symm
  have kp : ∀ {T : TypeId} {zz n : Nat} {vv : Value} {xs : List Value}, y5.ownsRow W0.heap.size T zz vv n xs → WE.ownsRow w.heap.size T zz vv n xs := fun ho => own_lowO (own_keep ho fun k cur hk hh => (hf1 k (by have := ho.lt k hk; omega)).trans hh) (by have := HZZ.out; omega)
  exact ⟨kp X5_1.out, kp X5_2.out, kp X5_3.out, kp X5_4.out, kp X5_5.out⟩
end Go.Proofs.YtamedcnjanichabGreatDoor.Hi

namespace Go.Proofs.YtamedcnjanichabGreatDoor.Hi
theorem ferr_lenY {p : Int} {f : Nat → Int} : ∀ (m k : Nat), (ferr p f k m).2.length ≤ 1
  | 0, _ => by simp [ferr]
  | m + 1, k => by
    unfold ferr
    split
    · exact ferr_lenY m (k + 1)
    · simp
theorem orE_lenY {a b : Int × List (Int × Int)} (ha : a.2.length ≤ 1) (hb : b.2.length ≤ 1) : (orE a b).2.length ≤ 1 := by
  unfold orE
  split
  · exact hb
  · exact ha
theorem cf_lenY (F : List Nat) (m : Nat) : (cf F m).2.length ≤ 1 := by
  unfold cf
  split
  · simp
  · refine orE_lenY (ferr_lenY _ _) ?_
    split <;> simp
theorem chk_places (h : Hr) : (chk h).2.length ≤ 1 := by
  unfold chk
  split
  · simp
  · split
    · simp
    · exact orE_lenY (cf_lenY _ _) (orE_lenY (cf_lenY _ _) (orE_lenY (ferr_lenY _ _) (ferr_lenY _ _)))
end Go.Proofs.YtamedcnjanichabGreatDoor.Hi
namespace Go.Proofs.YtamedcnjanichabGreatDoor
open Go.RowKit Go.Extern Cr

attribute [local go_sem] Oper.semAt_some

theorem keeps_setI {w : World} {b : Nat} {x y : Value} (h : w.heap[b]? = some (.cells #[x, y] 46)) (u v : Value) : Keeps w ((w.setCell ⟨b, 0, none⟩ u).setCell ⟨b, 1, none⟩ v) := fun k c hk => by
  have hne : k ≠ b := fun e => by
    subst e
    rw [h] at hk
    simp at hk
  exact (other2I hne).trans hk
theorem places_setI {w : World} {b n c : Nat} {x : Int} {lo : Option Addr} {lv : Value} {ps : List (Int × Int)} (h : HasPlaces w lv ps) (hb : w.heap[b]? = some (.cells #[.int .i64 x, .slice lo n c] 46)) (u v : Value) : HasPlaces ((w.setCell ⟨b, 0, none⟩ u).setCell ⟨b, 1, none⟩ v) lv ps := by
  obtain ⟨ao, cap, e, hc⟩ := h
  refine ⟨ao, cap, e, fun j p hj => ?_⟩
  obtain ⟨b', off, ea, hl, h0, h1⟩ := hc j p hj
  have hne : b' ≠ b := fun e => by
    subst e
    rcases (show off + j * 2 = 0 ∨ off + j * 2 = 1 ∨ 2 ≤ off + j * 2 by omega) with q | q | q
    · rw [q] at h1
      simp [World.cell?, hb] at h1
    · rw [q] at h0
      simp [World.cell?, hb] at h0
    · simp [World.cell?, hb] at h0
      have := (List.getElem?_eq_some_iff.1 h0).1
      simp at this
      omega
  have e1 := other2I (w := w) (v0 := u) (v1 := v) hne
  have key : ∀ o, ((w.setCell ⟨b, 0, none⟩ u).setCell ⟨b, 1, none⟩ v).cell? ⟨b', o, none⟩ = w.cell? ⟨b', o, none⟩ := fun o => by simp only [World.cell?, e1]
  exact ⟨b', off, ea, by simpa [World.setCell] using hl, (key _).trans h0, (key _).trans h1⟩
theorem nil_own {w : World} {B : Nat} {u : Hi.HV} {h : Hi.Hr} (g : Hi.OwnH w B u h) : NilH u := ⟨(wcap_of g.node).2, (wcap_of g.upF).2, (wcap_of g.dnF).2⟩
theorem places_nilI (w : World) : HasPlaces w (.slice none 0 0) [] := ⟨none, 0, rfl, fun j p hj => by simp at hj⟩
theorem hasB_nilI (w : World) : HasB w (.slice none 0 0) [] := ⟨none, 0, rfl, fun j p hj => by simp at hj⟩

end Go.Proofs.YtamedcnjanichabGreatDoor
