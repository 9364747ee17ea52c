/- image: the words and the bytes of a hierarchy; withLinks, sizeOf, wordsOf. viaductref19: head, links, Raw. image: wordsOf, Encode, Size. viaductref10.DocCheck, at every hierarchy. image.Encode, Size; viaductref19's Raw, DocEncode, DocSize. (Printed by geniid.py.) viaductref19's DocEncode, DocSize. (Printed by geniie.py.) -/
import Derived.Test.YtamedcnjanichabGreatDoorWrX
import Derived.Test.YtamedcnjanichabGreatDoorHrI
import Derived.Test.YtamedcnjanichabGreatDoorHsA
import Derived.Test.YtamedcnjanichabGreatDoorCrX
import Derived.Deep.RegionHeld3
import Derived.Test.YtamedcnjanichabGreatDoorHrJ
import Derived.Test.YtamedcnjanichabGreatDoorHdF
import Derived.Test.YtamedcnjanichabGreatDoorHdG
namespace Go.Proofs.YtamedcnjanichabGreatDoor
open Go.RowKit Go.Extern Cr

attribute [local go_sem] Oper.semAt_some

/-- the words of a link, of links, of a hierarchy. -/
def lkW (l : Hi.Lk) : List Nat := [l.hd, l.lf, l.rt, l.wt % 4294967296, l.wt / 4294967296]
def lksW (L : List Hi.Lk) : List Nat := L.flatMap lkW
def imW (h : Hi.Hr) : List Nat := [h.node.length, h.up.length, h.dn.length] ++ h.node ++ h.upF ++ lksW h.up ++ h.dnF ++ lksW h.dn
def head8 : List Nat := [86, 68, 67, 84, 1, 0, 0, 0]
/-- the bytes ahead of the sum, and all of them. -/
def imP (h : Hi.Hr) : List Nat := head8 ++ bytesOf (imW h)
def imB (h : Hi.Hr) : List Nat := sealOf (imP h)
theorem lksW_len : ∀ L : List Hi.Lk, (lksW L).length = 5 * L.length
  | [] => rfl
  | a :: r => by
    have ih := lksW_len r
    unfold lksW at ih ⊢
    rw [List.flatMap_cons, List.length_append, ih, List.length_cons]
    show 5 + 5 * r.length = _
    omega
theorem lksW_snoc (L : List Hi.Lk) (l : Hi.Lk) : lksW (L ++ [l]) = lksW L ++ lkW l := by unfold lksW; simp
theorem lkW_ok {l : Hi.Lk} (h : l.ok) : ∀ x ∈ lkW l, x < 4294967296 := by
  obtain ⟨h1, h2, h3, h4⟩ := h
  intro x hx
  simp only [lkW, List.mem_cons, List.not_mem_nil, or_false] at hx
  rcases hx with rfl | rfl | rfl | rfl | rfl
  · exact h1
  · exact h3
  · exact h4
  · omega
  · omega
theorem lksW_ok {L : List Hi.Lk} (h : ∀ l ∈ L, l.ok) : ∀ x ∈ lksW L, x < 4294967296 := by
  intro x hx
  obtain ⟨l, hl, hx⟩ := List.mem_flatMap.1 hx
  exact lkW_ok (h l hl) x hx
theorem imW_len (h : Hi.Hr) : (imW h).length = 3 + h.node.length + h.upF.length + 5 * h.up.length + h.dnF.length + 5 * h.dn.length := by
  unfold imW
  simp only [List.length_append, lksW_len, List.length_cons, List.length_nil]
/-- the counts of a hierarchy are within the limits. -/
structure SmallH (h : Hi.Hr) : Prop where
  n : h.node.length ≤ 65536
  u : h.up.length ≤ 1048576
  d : h.dn.length ≤ 1048576
  uf : h.upF.length = h.node.length + 1
  df : h.dnF.length = h.node.length + 1
theorem small_of_chk {h : Hi.Hr} (hc : Hi.chk h = (0, [])) : SmallH h := by
  obtain ⟨h1, h2, h3, h4, _⟩ := Hi.chk_ok hc
  exact ⟨h1, by omega, by omega, h3, h4⟩
theorem hasW_ws {w : World} {v : Value} {l : List Nat} (h : Hi.HasWs w v l) : HasW w v l := by
  obtain ⟨ao, cap, e, _, hc⟩ := h
  exact ⟨ao, cap, e, fun j a hj => (hc j a hj).2⟩
theorem imW_ok {w : World} {v : Hi.HV} {h : Hi.Hr} (hs : SmallH h) (hH : Hi.HasH w v h) : ∀ x ∈ imW h, x < 4294967296 := by
  have := hs.n
  have := hs.u
  have := hs.d
  intro x hx
  unfold imW at hx
  simp only [List.mem_append, List.mem_cons, List.not_mem_nil, or_false] at hx
  rcases hx with (((((rfl | rfl | rfl) | hx) | hx) | hx) | hx) | hx
  · omega
  · omega
  · omega
  · exact Hi.HasWs.ok hH.node x hx
  · exact Hi.HasWs.ok hH.upF x hx
  · refine lksW_ok (fun l hl => ?_) x hx
    obtain ⟨j, hj⟩ := List.getElem?_of_mem hl
    exact (hH.up.at hj).1
  · exact Hi.HasWs.ok hH.dnF x hx
  · refine lksW_ok (fun l hl => ?_) x hx
    obtain ⟨j, hj⟩ := List.getElem?_of_mem hl
    exact (hH.dn.at hj).1

theorem hasW_lit (w : World) (l : List Nat) (T : TypeId) : HasW (w.alloc (.cells (wv l).toArray T)) (.slice (some ⟨w.heap.size, 0, none⟩) l.length l.length) l := by
  have h : (w.alloc (.cells (wv l).toArray T)).heap[w.heap.size]? = some (.cells (wv l).toArray T) := heap_new _ _
  generalize w.alloc (.cells (wv l).toArray T) = W at h ⊢
  refine ⟨_, _, rfl, fun j a hj => ⟨_, 0, rfl, w_lt_get h, ?_⟩⟩
  simp [World.cell?, h, wv, hj]

theorem sizeOf_calls (n u d : Nat) (hn : n ≤ 4294967296) (hu : u ≤ 4294967296) (hd : d ≤ 4294967296) (w : World) : Calls Tryz.prog 41 #[.int .i64 (n : Int), .int .i64 (u : Int), .int .i64 (d : Int)] w fun e w' => e = .returned (.int .i64 ((32 + 12 * n + 20 * (u + d) : Nat) : Int)) ∧ w' = w := by
  go_enter Tryz.func41, Tryz.ntmps41
  go_wp2
  go_ret
  exact ⟨by go_num, rfl⟩

set_option maxRecDepth 100000 in
set_option maxHeartbeats 2000000 in
theorem withLinks_calls (base : Nat) (lo : Option Addr) (lc : Nat) (L : List Nat) (so : Option Addr) (sc : Nat) (ls : List Hi.Lk) (w : World) (hown : w.ownsRow base 39 1 (.slice lo L.length lc) L.length (wv L)) (hl : ∀ wx, Below base w wx → Hi.HasLs wx (.slice so ls.length sc) ls) (hb : base ≤ w.heap.size) (hL : L.length ≤ 1073741824) (hls : ls.length ≤ 1048576) :
    Calls Tryz.prog 51 #[.slice lo L.length lc, .slice so ls.length sc] w fun e w' => ∃ mo mc, e = .returned (.slice mo (L ++ lksW ls).length mc) ∧ w'.ownsRow base 39 1 (.slice mo (L ++ lksW ls).length mc) (L ++ lksW ls).length (wv (L ++ lksW ls)) ∧ Below base w w' := by
  have HL : Hid (∀ wx, Below base w wx → Hi.HasLs wx (.slice so ls.length sc) ls) := hl
  have HO : Hid (w.ownsRow base 39 1 (.slice lo L.length lc) L.length (wv L)) := hown
  have HBS : Hid (base ≤ w.heap.size) := hb
  clear hl hown
  go_enter Tryz.func51, Tryz.ntmps51
  go_wp2_with fail
  go_loopw [0, 9] (fun mv nv wr => ∃ (k : Nat) (qo : Option Addr) (qc : Nat), k ≤ ls.length ∧ nv = .int .i64 (k : Nat) ∧ mv = .slice qo (L ++ lksW (ls.take k)).length qc ∧ wr.ownsRow base 39 1 (.slice qo (L ++ lksW (ls.take k)).length qc) (L ++ lksW (ls.take k)).length (wv (L ++ lksW (ls.take k))) ∧ Below base w wr) (fun _ nv _ => ls.length - (intOf nv).toNat)
  case atStart => exact ⟨0, lo, lc, Nat.zero_le _, rfl, by simp [lksW], by simpa [lksW] using HO.out, Below.refl _ _⟩
  case round =>
    obtain ⟨k, qo, qc, hk, rfl, rfl, hO, hB⟩ := hrel
    by_cases hlt : k < ls.length
    · obtain ⟨a, ha⟩ : ∃ a, ls[k]? = some a := ⟨ls[k], List.getElem?_eq_getElem hlt⟩
      obtain ⟨hok, b, off, rfl, bl, c0, c1, c2, c3⟩ := (HL.out wr hB).at ha
      have hT : L ++ lksW (ls.take (k + 1)) = L ++ lksW (ls.take k) ++ lkW a := by rw [List.take_add_one, ha, Option.toList_some, lksW_snoc, List.append_assoc]
      have hle : (L ++ lksW (ls.take k)).length ≤ 2147483648 := by rw [List.length_append, lksW_len, List.length_take]; omega
      obtain ⟨M, hM⟩ : ∃ M, L ++ lksW (ls.take k) = M := ⟨_, rfl⟩
      rw [hM] at hO hT hle
      rw [hM]
      have HT : Hid (L ++ lksW (ls.take (k + 1)) = M ++ lkW a) := hT
      obtain ⟨ah, aw, al, ar⟩ := a
      simp only at c0 c1 c2 c3
      obtain ⟨k1, k2, k3, k4⟩ := hok
      simp only at k1 k2 k3 k4
      obtain ⟨Wa, hWa⟩ : ∃ Wa, wr.alloc (.cells #[.int .u32 (ah : Int), .int .u64 (aw : Int), .int .u32 (al : Int), .int .u32 (ar : Int)] 43) = Wa := ⟨_, rfl⟩
      have HWA : Hid (wr.alloc (.cells #[.int .u32 (ah : Int), .int .u64 (aw : Int), .int .u32 (al : Int), .int .u32 (ar : Int)] 43) = Wa) := hWa
      have bWa : Below wr.heap.size wr Wa := by rw [← hWa]; exact (Below.refl _ _).alloc (Nat.le_refl _) _
      have hnew : Wa.heap[wr.heap.size]? = some (.cells #[.int .u32 (ah : Int), .int .u64 (aw : Int), .int .u32 (al : Int), .int .u32 (ar : Int)] 43) := by rw [← hWa]; exact heap_new _ _
      have HOA : Hid ((Wa.alloc (.cells #[.int .u32 (ah : Int), .int .u32 (al : Int), .int .u32 (ar : Int), .int .u32 ((aw : Int) % 4294967296), .int .u32 ((aw : Int) / 4294967296)] 39)).ownsRow base 39 1 (.slice qo M.length qc) M.length (wv M) ∧ base ≤ (Wa.alloc (.cells #[.int .u32 (ah : Int), .int .u32 (al : Int), .int .u32 (ar : Int), .int .u32 ((aw : Int) % 4294967296), .int .u32 ((aw : Int) / 4294967296)] 39)).heap.size ∧ Below base w (Wa.alloc (.cells #[.int .u32 (ah : Int), .int .u32 (al : Int), .int .u32 (ar : Int), .int .u32 ((aw : Int) % 4294967296), .int .u32 ((aw : Int) / 4294967296)] 39))) := by
        have b2 : Below wr.heap.size wr (Wa.alloc (.cells #[.int .u32 (ah : Int), .int .u32 (al : Int), .int .u32 (ar : Int), .int .u32 ((aw : Int) % 4294967296), .int .u32 ((aw : Int) / 4294967296)] 39)) := bWa.alloc bWa.size _
        exact ⟨wown_below hO b2, Nat.le_trans (Nat.le_trans HBS.out hB.size) b2.size, hB.trans (b2.mono (Nat.le_trans HBS.out hB.size))⟩
      have HON : Hid (HasW (Wa.alloc (.cells #[.int .u32 (ah : Int), .int .u32 (al : Int), .int .u32 (ar : Int), .int .u32 ((aw : Int) % 4294967296), .int .u32 ((aw : Int) / 4294967296)] 39)) (.slice (some ⟨Wa.heap.size, 0, none⟩) 5 5) (lkW ⟨ah, aw, al, ar⟩)) := by
        have q := hasW_lit Wa (lkW ⟨ah, aw, al, ar⟩) 39
        rw [show (wv (lkW ⟨ah, aw, al, ar⟩)).toArray = #[.int .u32 (ah : Int), .int .u32 (al : Int), .int .u32 (ar : Int), .int .u32 ((aw : Int) % 4294967296), .int .u32 ((aw : Int) / 4294967296)] by simp [wv, lkW]] at q
        exact q
      have n0 : Wa.cell? ⟨wr.heap.size, 0, none⟩ = some (.int .u32 (ah : Int)) := by simp [World.cell?, hnew]
      have n1 : Wa.cell? ⟨wr.heap.size, 1, none⟩ = some (.int .u64 (aw : Int)) := by simp [World.cell?, hnew]
      have n2 : Wa.cell? ⟨wr.heap.size, 2, none⟩ = some (.int .u32 (al : Int)) := by simp [World.cell?, hnew]
      have n3 : Wa.cell? ⟨wr.heap.size, 3, none⟩ = some (.int .u32 (ar : Int)) := by simp [World.cell?, hnew]
      have ns : wr.heap.size < Wa.heap.size := w_lt_get hnew
      have i1 : (k : Int) < (ls.length : Int) := by omega
      have i2 : (0 : Int) ≤ (k : Int) := by omega
      clear ha hO hB hT hM hWa bWa hnew
      go_upto_region 4 with fail
      rw [HWA.out]
      go_wp2_with (at_builtin; refine wpList_append_W rfl _ _ rfl base (.slice qo M.length qc) M rfl HOA.out.1 (some ⟨Wa.heap.size, 0, none⟩) 5 (lkW ⟨ah, aw, al, ar⟩) rfl HON.out (fun e => by cases e) (by simp only [lkW, List.length_cons, List.length_nil]; omega) HOA.out.2.1 ?_; intro v' w' hown hgr; obtain ⟨ro, rc, hv⟩ := wown_slice hown; subst hv; have Y : Hid (w'.ownsRow base 39 1 (.slice ro (M ++ lkW ⟨ah, aw, al, ar⟩).length rc) (M ++ lkW ⟨ah, aw, al, ar⟩).length (wv (M ++ lkW ⟨ah, aw, al, ar⟩)) ∧ Below base w w') := ⟨hown, wbelow_grown HOA.out.2.2 HOA.out.1 hgr HOA.out.2.1⟩; clear hown hgr; generalize M ++ lkW ⟨ah, aw, al, ar⟩ = M2 at *)
      go_roundw
      case rel => exact ⟨k + 1, ro, rc, by omega, by go_num, by rw [HT.out], by rw [HT.out]; exact Y.out.1, Y.out.2⟩
      case measure => simp [intOf]; omega
    · obtain rfl : k = ls.length := by omega
      rw [List.take_length] at hO ⊢
      have HE : Hid (wr.ownsRow base 39 1 (.slice qo (L ++ lksW ls).length qc) (L ++ lksW ls).length (wv (L ++ lksW ls)) ∧ Below base w wr) := ⟨hO, hB⟩
      clear hO hB
      go_wp2_with fail
      go_ret
      exact ⟨qo, qc, rfl, HE.out.1, HE.out.2⟩
end Go.Proofs.YtamedcnjanichabGreatDoor

namespace Go.Proofs.YtamedcnjanichabGreatDoor
open Go.RowKit Go.Extern Cr

attribute [local go_sem] Oper.semAt_some

theorem leN_eight (v : Nat) : leN v 8 = leN (v % 4294967296) 4 ++ leN (v / 4294967296) 4 := by
  simp only [leN, List.cons_append, List.nil_append, List.cons.injEq, and_true]
  refine ⟨?_, ?_, ?_, ?_, ?_, ?_, ?_, ?_⟩ <;> omega
theorem bytesOf_append (a b : List Nat) : bytesOf (a ++ b) = bytesOf a ++ bytesOf b := by unfold bytesOf; rw [List.flatMap_append]
theorem bytesOf_lk (l : Hi.Lk) : bytesOf (lkW l) = leN l.hd 4 ++ leN l.lf 4 ++ leN l.rt 4 ++ leN l.wt 8 := by
  rw [leN_eight]
  simp [bytesOf, lkW]
theorem head_bts : Bts head8 := bts_of (by decide)
theorem imP_bts (h : Hi.Hr) : Bts (imP h) := head_bts.app (bytesOf_bts _)
theorem imP_len (h : Hi.Hr) : (imP h).length = 8 + 4 * (imW h).length := by
  unfold imP
  rw [List.length_append, bytesOf_len]
  rfl
theorem jHead_calls (w : World) : Calls Tryz.prog 33 #[] w fun e w' => ∃ mo mc, e = .returned (.slice mo 8 mc) ∧ w'.ownsRow w.heap.size 5 1 (.slice mo 8 mc) 8 (bv head8) ∧ Below w.heap.size w w' := by
  have H : Hid ((w.alloc (.cells (bv head8).toArray 5)).ownsRow w.heap.size 5 1 (.slice (some ⟨w.heap.size, 0, none⟩) 8 8) 8 (bv head8) ∧ Below w.heap.size w (w.alloc (.cells (bv head8).toArray 5))) :=
    ⟨by have h := World.ownsRow_lit (base := w.heap.size) (e := 5) (size := 1) w (bv head8).toArray 8 (Nat.le_refl _) (by decide) (by simp [bv, head8]); simpa using h, (Below.refl _ _).alloc (Nat.le_refl _) _⟩
  go_enter Tryz.func33, Tryz.ntmps33
  go_wp2
  go_ret
  exact ⟨_, _, rfl, H.out.1, H.out.2⟩
theorem own_nil {w : World} {B n cap : Nat} {ao : Option Addr} {xs : List Value} (h : w.ownsRow B 5 1 (.slice ao n cap) n xs) : ao = none → cap = 0 := by
  rcases h.2 with ⟨e, _⟩ | ⟨g, c, cur, e, _⟩
  · intro _; injection e
  · intro h0; rw [h0] at e; cases e

set_option maxRecDepth 100000 in
set_option maxHeartbeats 2000000 in
theorem jLinks_calls (lo : Option Addr) (lc : Nat) (L : List Nat) (so : Option Addr) (sc : Nat) (ls : List Hi.Lk) (w : World) (hB : HasB w (.slice lo L.length lc) L) (hn : lo = none → lc = 0) (hl : Hi.HasLs w (.slice so ls.length sc) ls) (hL : L.length ≤ 1073741824) (hls : ls.length ≤ 1048576) :
    Calls Tryz.prog 34 #[.slice lo L.length lc, .slice so ls.length sc] w fun e w' => ∃ mo mc, e = .returned (.slice mo (L ++ bytesOf (lksW ls)).length mc) ∧ HasB w' (.slice mo (L ++ bytesOf (lksW ls)).length mc) (L ++ bytesOf (lksW ls)) ∧ (mo = none → mc = 0) ∧ Below w.heap.size w w' := by
  have HL : Hid (∀ wx, Below w.heap.size w wx → Hi.HasLs wx (.slice so ls.length sc) ls) := fun wx h => hl.keep h
  have H0 : Hid (HasB w (.slice lo L.length lc) L ∧ (lo = none → lc = 0)) := ⟨hB, hn⟩
  clear hl hB hn
  go_enter Tryz.func34, Tryz.ntmps34
  go_wp2_with fail
  go_loopw [0, 9] (fun mv nv wr => ∃ (k : Nat) (qo : Option Addr) (qc : Nat), k ≤ ls.length ∧ nv = .int .i64 (k : Nat) ∧ mv = .slice qo (L ++ bytesOf (lksW (ls.take k))).length qc ∧ HasB wr (.slice qo (L ++ bytesOf (lksW (ls.take k))).length qc) (L ++ bytesOf (lksW (ls.take k))) ∧ (qo = none → qc = 0) ∧ Below w.heap.size w wr) (fun _ nv _ => ls.length - (intOf nv).toNat)
  case atStart => exact ⟨0, lo, lc, Nat.zero_le _, rfl, by simp [lksW, bytesOf], by simpa [lksW, bytesOf] using H0.out.1, H0.out.2, Below.refl _ _⟩
  case round =>
    obtain ⟨k, qo, qc, hk, rfl, rfl, hO, hq, hBw⟩ := hrel
    by_cases hlt : k < ls.length
    · obtain ⟨a, ha⟩ : ∃ a, ls[k]? = some a := ⟨ls[k], List.getElem?_eq_getElem hlt⟩
      obtain ⟨hok, b, off, rfl, bl, c0, c1, c2, c3⟩ := (HL.out wr hBw).at ha
      have hT : L ++ bytesOf (lksW (ls.take (k + 1))) = L ++ bytesOf (lksW (ls.take k)) ++ leN a.hd 4 ++ leN a.lf 4 ++ leN a.rt 4 ++ leN a.wt 8 := by rw [List.take_add_one, ha, Option.toList_some, lksW_snoc, bytesOf_append, bytesOf_lk]; simp only [List.append_assoc]
      have hle : (L ++ bytesOf (lksW (ls.take k))).length ≤ 2147483648 := by rw [List.length_append, bytesOf_len, lksW_len, List.length_take]; omega
      obtain ⟨M, hM⟩ : ∃ M, L ++ bytesOf (lksW (ls.take k)) = M := ⟨_, rfl⟩
      rw [hM] at hO hT hle
      rw [hM]
      obtain ⟨ah, aw, al, ar⟩ := a
      simp only at c0 c1 c2 c3 hT
      obtain ⟨k1, k2, k3, k4⟩ := hok
      simp only at k1 k2 k3 k4
      have l1 : (M ++ leN ah 4).length = M.length + 4 := by rw [List.length_append, leN_len]
      have l2 : (M ++ leN ah 4 ++ leN al 4).length = M.length + 4 + 4 := by rw [List.length_append, leN_len, l1]
      have l3 : (M ++ leN ah 4 ++ leN al 4 ++ leN ar 4).length = M.length + 4 + 4 + 4 := by rw [List.length_append, leN_len, l2]
      have l4 : (M ++ leN ah 4 ++ leN al 4 ++ leN ar 4 ++ leN aw 8).length = M.length + 4 + 4 + 4 + 8 := by rw [List.length_append, leN_len, l3]
      obtain ⟨M1, hM1⟩ : ∃ M1, M ++ leN ah 4 = M1 := ⟨_, rfl⟩
      rw [hM1] at l1 l2 l3 l4 hT
      obtain ⟨M2, hM2⟩ : ∃ M2, M1 ++ leN al 4 = M2 := ⟨_, rfl⟩
      rw [hM2] at l2 l3 l4 hT
      obtain ⟨M3, hM3⟩ : ∃ M3, M2 ++ leN ar 4 = M3 := ⟨_, rfl⟩
      rw [hM3] at l3 l4 hT
      obtain ⟨M4, hM4⟩ : ∃ M4, M3 ++ leN aw 8 = M4 := ⟨_, rfl⟩
      rw [hM4] at l4 hT
      have HT : Hid (L ++ bytesOf (lksW (ls.take (k + 1))) = M4) := hT
      have HLN : Hid (M1.length = M.length + 4 ∧ M2.length = M.length + 4 + 4 ∧ M3.length = M.length + 4 + 4 + 4 ∧ M4.length = M.length + 4 + 4 + 4 + 8) := ⟨l1, l2, l3, l4⟩
      have P1 : Hid (∀ (lo : Option Addr) (lc : Nat) (wx : World), HasB wx (.slice lo M.length lc) M → (lo = none → lc = 0) → Calls Tryz.prog 63 #[.slice lo M.length lc, .int .u64 (ah : Int), .int .i64 4] wx fun e w' => ∃ mo mc, e = .returned (.slice mo M1.length mc) ∧ (HasB w' (.slice mo M1.length mc) M1 ∧ (mo = none → mc = 0)) ∧ Below wx.heap.size wx w') := fun lo lc wx h1 h2 => by
        refine (vPut_calls lo lc M ah 4 (by omega) wx h1 (by omega) h2 (by omega)).mono ?_
        rintro e w' ⟨mo, mc, rfl, ho, hb⟩
        rw [hM1, ← l1] at ho
        rw [← l1]
        exact ⟨mo, mc, rfl, ⟨hasB_own ho, own_nil ho⟩, hb⟩
      have P2 : Hid (∀ (lo : Option Addr) (lc : Nat) (wx : World), HasB wx (.slice lo M1.length lc) M1 → (lo = none → lc = 0) → Calls Tryz.prog 63 #[.slice lo M1.length lc, .int .u64 (al : Int), .int .i64 4] wx fun e w' => ∃ mo mc, e = .returned (.slice mo M2.length mc) ∧ (HasB w' (.slice mo M2.length mc) M2 ∧ (mo = none → mc = 0)) ∧ Below wx.heap.size wx w') := fun lo lc wx h1 h2 => by
        refine (vPut_calls lo lc M1 al 4 (by omega) wx h1 (by omega) h2 (by omega)).mono ?_
        rintro e w' ⟨mo, mc, rfl, ho, hb⟩
        have e9 : M1.length + 4 = M2.length := by omega
        rw [hM2, e9] at ho
        rw [e9]
        exact ⟨mo, mc, rfl, ⟨hasB_own ho, own_nil ho⟩, hb⟩
      have P3 : Hid (∀ (lo : Option Addr) (lc : Nat) (wx : World), HasB wx (.slice lo M2.length lc) M2 → (lo = none → lc = 0) → Calls Tryz.prog 63 #[.slice lo M2.length lc, .int .u64 (ar : Int), .int .i64 4] wx fun e w' => ∃ mo mc, e = .returned (.slice mo M3.length mc) ∧ (HasB w' (.slice mo M3.length mc) M3 ∧ (mo = none → mc = 0)) ∧ Below wx.heap.size wx w') := fun lo lc wx h1 h2 => by
        refine (vPut_calls lo lc M2 ar 4 (by omega) wx h1 (by omega) h2 (by omega)).mono ?_
        rintro e w' ⟨mo, mc, rfl, ho, hb⟩
        have e9 : M2.length + 4 = M3.length := by omega
        rw [hM3, e9] at ho
        rw [e9]
        exact ⟨mo, mc, rfl, ⟨hasB_own ho, own_nil ho⟩, hb⟩
      have P4 : Hid (∀ (lo : Option Addr) (lc : Nat) (wx : World), HasB wx (.slice lo M3.length lc) M3 → (lo = none → lc = 0) → Calls Tryz.prog 63 #[.slice lo M3.length lc, .int .u64 (aw : Int), .int .i64 8] wx fun e w' => ∃ mo mc, e = .returned (.slice mo M4.length mc) ∧ (HasB w' (.slice mo M4.length mc) M4 ∧ (mo = none → mc = 0)) ∧ Below wx.heap.size wx w') := fun lo lc wx h1 h2 => by
        refine (vPut_calls lo lc M3 aw 8 k2 wx h1 (by omega) h2 (by omega)).mono ?_
        rintro e w' ⟨mo, mc, rfl, ho, hb⟩
        have e9 : M3.length + 8 = M4.length := by omega
        rw [hM4, e9] at ho
        rw [e9]
        exact ⟨mo, mc, rfl, ⟨hasB_own ho, own_nil ho⟩, hb⟩
      obtain ⟨Wa, hWa⟩ : ∃ Wa, wr.alloc (.cells #[.int .u32 (ah : Int), .int .u64 (aw : Int), .int .u32 (al : Int), .int .u32 (ar : Int)] 43) = Wa := ⟨_, rfl⟩
      have HWA : Hid (wr.alloc (.cells #[.int .u32 (ah : Int), .int .u64 (aw : Int), .int .u32 (al : Int), .int .u32 (ar : Int)] 43) = Wa) := hWa
      have bWa : Below wr.heap.size wr Wa := by rw [← hWa]; exact (Below.refl _ _).alloc (Nat.le_refl _) _
      have hnew : Wa.heap[wr.heap.size]? = some (.cells #[.int .u32 (ah : Int), .int .u64 (aw : Int), .int .u32 (al : Int), .int .u32 (ar : Int)] 43) := by rw [← hWa]; exact heap_new _ _
      have HX : Hid (∀ wx, Below Wa.heap.size Wa wx → (wx.cell? ⟨wr.heap.size, 0, none⟩ = some (.int .u32 (ah : Int)) ∧ wx.cell? ⟨wr.heap.size, 1, none⟩ = some (.int .u64 (aw : Int)) ∧ wx.cell? ⟨wr.heap.size, 2, none⟩ = some (.int .u32 (al : Int)) ∧ wx.cell? ⟨wr.heap.size, 3, none⟩ = some (.int .u32 (ar : Int))) ∧ wr.heap.size < wx.heap.size ∧ Below w.heap.size w wx) := fun wx hb => by
        have q := (hb.block _ (w_lt_get hnew)).trans hnew
        refine ⟨⟨?_, ?_, ?_, ?_⟩, w_lt_get q, (hBw.trans (bWa.mono hBw.size)).trans (hb.mono (Nat.le_trans hBw.size bWa.size))⟩ <;> simp [World.cell?, q]
      have HOA : Hid (HasB Wa (.slice qo M.length qc) M ∧ (qo = none → qc = 0)) := ⟨hO.keep bWa, hq⟩
      obtain ⟨⟨n0, n1, n2, n3⟩, ns, _⟩ := HX.out Wa (Below.refl _ _)
      have i1 : (k : Int) < (ls.length : Int) := by omega
      have i2 : (0 : Int) ≤ (k : Int) := by omega
      clear ha hO hBw hq hT hM hWa bWa hnew l1 l2 l3 l4 hM1 hM2 hM3 hM4
      go_upto_region 4 with fail
      rw [HWA.out]
      go_wp2_with fail
      refine (P1.out _ _ Wa HOA.out.1 HOA.out.2).mono ?_
      rintro e w1 ⟨o1, d1, rfl, hh, hb⟩
      have Y1 : Hid (Below Wa.heap.size Wa w1 ∧ HasB w1 (.slice o1 M1.length d1) M1 ∧ (o1 = none → d1 = 0)) := ⟨hb, hh⟩
      clear hh hb n0 n1 n2 n3 ns
      obtain ⟨⟨n0, n1, n2, n3⟩, ns, _⟩ := HX.out w1 Y1.out.1
      go_wp2_with fail
      refine (P2.out _ _ w1 Y1.out.2.1 Y1.out.2.2).mono ?_
      rintro e w2 ⟨o2, d2, rfl, hh, hb⟩
      have Y2 : Hid (Below Wa.heap.size Wa w2 ∧ HasB w2 (.slice o2 M2.length d2) M2 ∧ (o2 = none → d2 = 0)) := ⟨Y1.out.1.trans (hb.mono Y1.out.1.size), hh⟩
      clear hh hb n0 n1 n2 n3 ns
      obtain ⟨⟨n0, n1, n2, n3⟩, ns, _⟩ := HX.out w2 Y2.out.1
      go_wp2_with fail
      refine (P3.out _ _ w2 Y2.out.2.1 Y2.out.2.2).mono ?_
      rintro e w3 ⟨o3, d3, rfl, hh, hb⟩
      have Y3 : Hid (Below Wa.heap.size Wa w3 ∧ HasB w3 (.slice o3 M3.length d3) M3 ∧ (o3 = none → d3 = 0)) := ⟨Y2.out.1.trans (hb.mono Y2.out.1.size), hh⟩
      clear hh hb n0 n1 n2 n3 ns
      obtain ⟨⟨n0, n1, n2, n3⟩, ns, _⟩ := HX.out w3 Y3.out.1
      go_wp2_with fail
      refine (P4.out _ _ w3 Y3.out.2.1 Y3.out.2.2).mono ?_
      rintro e w4 ⟨o4, d4, rfl, hh, hb⟩
      have Y4 : Hid (Below w.heap.size w w4 ∧ HasB w4 (.slice o4 M4.length d4) M4 ∧ (o4 = none → d4 = 0)) := ⟨(HX.out w4 (Y3.out.1.trans (hb.mono Y3.out.1.size))).2.2, hh⟩
      clear hh hb n0 n1 n2 n3 ns
      go_wp2
      go_roundw
      case rel => exact ⟨k + 1, o4, d4, by omega, by go_num, by rw [HT.out], by rw [HT.out]; exact Y4.out.2.1, Y4.out.2.2, Y4.out.1⟩
      case measure => simp [intOf]; omega
    · obtain rfl : k = ls.length := by omega
      rw [List.take_length] at hO ⊢
      have HE : Hid (HasB wr (.slice qo (L ++ bytesOf (lksW ls)).length qc) (L ++ bytesOf (lksW ls)) ∧ (qo = none → qc = 0) ∧ Below w.heap.size w wr) := ⟨hO, hq, hBw⟩
      clear hO hq hBw
      go_wp2_with fail
      go_ret
      exact ⟨qo, qc, rfl, HE.out.1, HE.out.2.1, HE.out.2.2⟩
end Go.Proofs.YtamedcnjanichabGreatDoor

namespace Go.Proofs.YtamedcnjanichabGreatDoor
open Go.RowKit Go.Extern Cr

attribute [local go_sem] Oper.semAt_some

/-- what is nil has no room. -/
structure NilH (v : Hi.HV) : Prop where
  n : v.no = none → v.nc = 0
  u : v.uo = none → v.uc = 0
  d : v.wo = none → v.wc = 0
theorem make_wsI (n : Nat) (hn : n ≤ 1073741824) : ∃ cs : Array Value, cs.size = n * 1 ∧ ∀ w, (Instr.makeSlice 22 (.int .i64 0) (.int .i64 (n : Int))).run Tryz.prog w = .ok (.slice (some ⟨w.heap.size, 0, none⟩) 0 n) (w.alloc (.cells cs 39)) := by
  obtain ⟨i, hi, hz, hs, hb⟩ := infoW
  refine ⟨madeCells #[.int .u32 0] (n * 1), by simp [size_madeCells], fun w => ?_⟩
  have hr := run_make (P := Tryz.prog) w 22 39 i _ Tryz.underlying22 hi hz .i64 .i64 0 n (by omega) (by omega) (by rw [hb]; omega) (by omega)
  simp only [Int.toNat_natCast, hs] at hr
  rw [hr]
  rfl
theorem cells5 {W : World} {b : Nat} {T : TypeId} {a0 a1 a2 a3 a4 : Value} (h : W.heap[b]? = some (.cells #[a0, a1, a2, a3, a4] T)) : W.cell? ⟨b, 0, none⟩ = some a0 ∧ W.cell? ⟨b, 1, none⟩ = some a1 ∧ W.cell? ⟨b, 2, none⟩ = some a2 ∧ W.cell? ⟨b, 3, none⟩ = some a3 ∧ W.cell? ⟨b, 4, none⟩ = some a4 := by
  refine ⟨?_, ?_, ?_, ?_, ?_⟩ <;> simp [World.cell?, h]

set_option maxRecDepth 100000 in
set_option maxHeartbeats 4000000 in
theorem wordsOf_calls (v : Hi.HV) (h : Hi.Hr) (w : World) (hH : Hi.HasH w v h) (hs : SmallH h) (hnil : NilH v) :
    Calls Tryz.prog 24 #[Hi.hvl v h] w fun e w' => ∃ mo mc, e = .returned (.slice mo (imW h).length mc) ∧ w'.ownsRow w.heap.size 39 1 (.slice mo (imW h).length mc) (imW h).length (wv (imW h)) ∧ Below w.heap.size w w' := by
  obtain ⟨no, uo, ul, wo, dl, nc, uc, ulc, wc, dlc⟩ := v
  obtain ⟨nd, uF, up, dF, dn⟩ := h
  obtain ⟨s1, s2, s3, s4, s5⟩ := hs
  simp only at s1 s2 s3 s4 s5
  have s6 : uF.length ≤ 65537 := by omega
  have s7 : dF.length ≤ 65537 := by omega
  clear s4 s5
  obtain ⟨W0, hW0⟩ : ∃ W0, w.alloc (.cells #[.slice no nd.length nc, .slice uo uF.length uc, .slice ul up.length ulc, .slice wo dF.length wc, .slice dl dn.length dlc] 25) = W0 := ⟨_, rfl⟩
  have HW0 : Hid (w.alloc (.cells #[.slice no nd.length nc, .slice uo uF.length uc, .slice ul up.length ulc, .slice wo dF.length wc, .slice dl dn.length dlc] 25) = W0) := hW0
  have hB0 : Below w.heap.size w W0 := by rw [← hW0]; exact (Below.refl _ _).alloc (Nat.le_refl _) _
  have hbx : W0.heap[w.heap.size]? = some (.cells #[.slice no nd.length nc, .slice uo uF.length uc, .slice ul up.length ulc, .slice wo dF.length wc, .slice dl dn.length dlc] 25) := by rw [← hW0]; exact heap_new _ _
  have HX : Hid (∀ wx, Below W0.heap.size W0 wx → (wx.cell? ⟨w.heap.size, 0, none⟩ = some (.slice no nd.length nc) ∧ wx.cell? ⟨w.heap.size, 1, none⟩ = some (.slice uo uF.length uc) ∧ wx.cell? ⟨w.heap.size, 2, none⟩ = some (.slice ul up.length ulc) ∧ wx.cell? ⟨w.heap.size, 3, none⟩ = some (.slice wo dF.length wc) ∧ wx.cell? ⟨w.heap.size, 4, none⟩ = some (.slice dl dn.length dlc)) ∧ w.heap.size < wx.heap.size ∧ Below w.heap.size w wx ∧ Hi.HasH wx ⟨no, uo, ul, wo, dl, nc, uc, ulc, wc, dlc⟩ ⟨nd, uF, up, dF, dn⟩) := fun wx hb => by
    have q := (hb.block _ (w_lt_get hbx)).trans hbx
    have hw := hB0.trans (hb.mono hB0.size)
    exact ⟨cells5 q, w_lt_get q, hw, hH.keep hw⟩
  have HNL : Hid ((no = none → nc = 0) ∧ (uo = none → uc = 0) ∧ (wo = none → wc = 0)) := ⟨hnil.n, hnil.u, hnil.d⟩
  have HSZ : Hid (w.heap.size ≤ W0.heap.size) := hB0.size
  obtain ⟨Z, hZ⟩ : ∃ Z, 32 + 12 * nd.length + 20 * (up.length + dn.length) = Z := ⟨_, rfl⟩
  have HSO : Hid (Calls Tryz.prog 41 #[.int .i64 (nd.length : Int), .int .i64 (up.length : Int), .int .i64 (dn.length : Int)] W0 fun e w' => e = .returned (.int .i64 (Z : Int)) ∧ w' = W0) := by
    have q := sizeOf_calls nd.length up.length dn.length (by omega) (by omega) (by omega) W0
    rw [hZ] at q
    exact q
  obtain ⟨C, hC⟩ : ∃ C : Nat, (Z : Int) / 4 = (C : Int) := ⟨Z / 4, by omega⟩
  have hCb : C ≤ 1073741824 := by omega
  obtain ⟨cs, hcs, hmk⟩ := make_wsI C hCb
  obtain ⟨⟨c0, c1, c2, c3, c4⟩, l0, _⟩ := HX.out W0 (Below.refl _ _)
  have HIM : Hid (imW ⟨nd, uF, up, dF, dn⟩ = [nd.length, up.length, dn.length] ++ nd ++ uF ++ lksW up ++ dF ++ lksW dn) := rfl
  have HCS : Hid (cs.size = C * 1) := hcs
  obtain ⟨A, hA⟩ : ∃ A, (W0.alloc (.cells cs 39)) = A := ⟨_, rfl⟩
  have HAA : Hid (W0.alloc (.cells cs 39) = A) := hA
  have bA : Below W0.heap.size W0 A := by rw [← hA]; exact (Below.refl _ _).alloc (Nat.le_refl _) _
  have kA : A.heap[W0.heap.size]? = some (.cells cs 39) := by rw [← hA]; exact heap_new _ _
  have HA0 : Hid (A.ownsRow W0.heap.size 39 1 (.slice (some ⟨W0.heap.size, 0, none⟩) 0 C) ([] : List Nat).length (wv []) ∧ Below W0.heap.size W0 A) :=
    ⟨⟨rfl, Or.inr ⟨W0.heap.size, C, cs, rfl, Nat.le_refl _, kA, Nat.zero_le _, by unfold maxLen; omega, hcs, rfl⟩⟩, bA⟩
  have L3 : Hid (wv [nd.length, up.length, dn.length] = [.int .u32 (nd.length : Int), .int .u32 (up.length : Int), .int .u32 (dn.length : Int)]) := rfl
  clear hW0 hB0 hbx hH hnil hZ hcs hA bA kA
  unfold Hi.hvl
  simp only
  go_enter Tryz.func24, Tryz.ntmps24
  go_upto_region 1 with fail
  rw [HW0.out]
  go_wp2_with fail
  refine HSO.out.mono ?_
  rintro e y ⟨rfl, hy⟩
  have hy' := hy.symm
  clear hy
  subst hy'
  go_upto_region 3 with fail
  rw [HAA.out]
  clear hmk hC c0 c1 c2 c3 c4 l0
  have B1 : Hid ((A.alloc (.cells #[.int .u32 (nd.length : Int), .int .u32 (up.length : Int), .int .u32 (dn.length : Int)] 39)).ownsRow W0.heap.size 39 1 (.slice (some ⟨W0.heap.size, 0, none⟩) 0 C) ([] : List Nat).length (wv []) ∧ HasW (A.alloc (.cells #[.int .u32 (nd.length : Int), .int .u32 (up.length : Int), .int .u32 (dn.length : Int)] 39)) (.slice (some ⟨A.heap.size, 0, none⟩) 3 3) [nd.length, up.length, dn.length] ∧ W0.heap.size ≤ (A.alloc (.cells #[.int .u32 (nd.length : Int), .int .u32 (up.length : Int), .int .u32 (dn.length : Int)] 39)).heap.size ∧ Below W0.heap.size W0 (A.alloc (.cells #[.int .u32 (nd.length : Int), .int .u32 (up.length : Int), .int .u32 (dn.length : Int)] 39))) := by
    have b1 : Below A.heap.size A (A.alloc (.cells #[.int .u32 (nd.length : Int), .int .u32 (up.length : Int), .int .u32 (dn.length : Int)] 39)) := (Below.refl _ _).alloc (Nat.le_refl _) _
    have b2 := HA0.out.2.trans (b1.mono HA0.out.2.size)
    exact ⟨wown_below HA0.out.1 b1, hasW_lit A [nd.length, up.length, dn.length] 39, b2.size, b2⟩
  obtain ⟨⟨c0, c1, c2, c3, c4⟩, l0, _⟩ := HX.out A HA0.out.2
  go_upto_region 4 with (at_builtin; refine wpList_append_W rfl _ _ rfl W0.heap.size (.slice (some ⟨W0.heap.size, 0, none⟩) 0 C) [] rfl B1.out.1 (some ⟨A.heap.size, 0, none⟩) 3 [nd.length, up.length, dn.length] rfl B1.out.2.1 (fun e => by cases e) (by simp only [List.length_cons, List.length_nil]; omega) B1.out.2.2.1 ?_; intro v1 w1 hown hgr; obtain ⟨o1, d1, hv⟩ := wown_slice hown; subst hv; have Y1 : Hid (w1.ownsRow W0.heap.size 39 1 (.slice o1 ([] ++ [nd.length, up.length, dn.length]).length d1) ([] ++ [nd.length, up.length, dn.length]).length (wv ([] ++ [nd.length, up.length, dn.length])) ∧ Below W0.heap.size W0 w1) := ⟨hown, wbelow_grown B1.out.2.2.2 B1.out.1 hgr B1.out.2.2.1⟩; clear hown hgr; obtain ⟨M1, hM1⟩ : ∃ M, [] ++ [nd.length, up.length, dn.length] = M := ⟨_, rfl⟩; rw [hM1] at Y1; rw [hM1]; have HM1 : Hid ([] ++ [nd.length, up.length, dn.length] = M1) := hM1; have hl1 : M1.length ≤ 3 := (by rw [← hM1, List.length_append]; simp); clear hM1 c0 c1 c2 c3 c4 l0; obtain ⟨⟨c0, c1, c2, c3, c4⟩, l0, _⟩ := HX.out w1 Y1.out.2)
  go_upto_region 5 with (at_builtin; refine wpList_append_W rfl _ _ rfl W0.heap.size (.slice o1 M1.length d1) M1 rfl Y1.out.1 no nc nd rfl (hasW_ws (HX.out w1 Y1.out.2).2.2.2.node) HNL.out.1 (by omega) Y1.out.2.size ?_; intro v2 w2 hown hgr; obtain ⟨o2, d2, hv⟩ := wown_slice hown; subst hv; have Y2 : Hid (w2.ownsRow W0.heap.size 39 1 (.slice o2 (M1 ++ nd).length d2) (M1 ++ nd).length (wv (M1 ++ nd)) ∧ Below W0.heap.size W0 w2) := ⟨hown, wbelow_grown Y1.out.2 Y1.out.1 hgr Y1.out.2.size⟩; clear hown hgr; obtain ⟨M2, hM2⟩ : ∃ M, M1 ++ nd = M := ⟨_, rfl⟩; rw [hM2] at Y2; rw [hM2]; have HM2 : Hid (M1 ++ nd = M2) := hM2; have hl2 : M2.length ≤ 70000 := (by rw [← hM2, List.length_append]; omega); clear hM2 c0 c1 c2 c3 c4 l0; obtain ⟨⟨c0, c1, c2, c3, c4⟩, l0, _⟩ := HX.out w2 Y2.out.2)
  go_upto_region 6 with (at_builtin; refine wpList_append_W rfl _ _ rfl W0.heap.size (.slice o2 M2.length d2) M2 rfl Y2.out.1 uo uc uF rfl (hasW_ws (HX.out w2 Y2.out.2).2.2.2.upF) HNL.out.2.1 (by omega) Y2.out.2.size ?_; intro v3 w3 hown hgr; obtain ⟨o3, d3, hv⟩ := wown_slice hown; subst hv; have Y3 : Hid (w3.ownsRow W0.heap.size 39 1 (.slice o3 (M2 ++ uF).length d3) (M2 ++ uF).length (wv (M2 ++ uF)) ∧ Below W0.heap.size W0 w3) := ⟨hown, wbelow_grown Y2.out.2 Y2.out.1 hgr Y2.out.2.size⟩; clear hown hgr; obtain ⟨M3, hM3⟩ : ∃ M, M2 ++ uF = M := ⟨_, rfl⟩; rw [hM3] at Y3; rw [hM3]; have HM3 : Hid (M2 ++ uF = M3) := hM3; have hl3 : M3.length ≤ 140000 := (by rw [← hM3, List.length_append]; omega); clear hM3 c0 c1 c2 c3 c4 l0; obtain ⟨⟨c0, c1, c2, c3, c4⟩, l0, _⟩ := HX.out w3 Y3.out.2)
  go_wp2_with fail
  refine (withLinks_calls W0.heap.size o3 d3 M3 ul ulc up w3 Y3.out.1 (fun wx hx => (HX.out wx (Y3.out.2.trans hx)).2.2.2.up) Y3.out.2.size (by omega) (by omega)).mono ?_
  rintro e w4 ⟨o4, d4, rfl, hown, hb⟩
  have Y4 : Hid (w4.ownsRow W0.heap.size 39 1 (.slice o4 (M3 ++ lksW up).length d4) (M3 ++ lksW up).length (wv (M3 ++ lksW up)) ∧ Below W0.heap.size W0 w4) := ⟨hown, Y3.out.2.trans hb⟩
  obtain ⟨M4, hM4⟩ : ∃ M, M3 ++ lksW up = M := ⟨_, rfl⟩
  rw [hM4] at Y4
  rw [hM4]
  have HM4 : Hid (M3 ++ lksW up = M4) := hM4
  have hl4 : M4.length ≤ 5500000 := by rw [← hM4, List.length_append, lksW_len]; omega
  clear hown hb hM4 c0 c1 c2 c3 c4 l0
  obtain ⟨⟨c0, c1, c2, c3, c4⟩, l0, _⟩ := HX.out w4 Y4.out.2
  go_upto_region 8 with (at_builtin; refine wpList_append_W rfl _ _ rfl W0.heap.size (.slice o4 M4.length d4) M4 rfl Y4.out.1 wo wc dF rfl (hasW_ws (HX.out w4 Y4.out.2).2.2.2.dnF) HNL.out.2.2 (by omega) Y4.out.2.size ?_; intro v5 w5 hown hgr; obtain ⟨o5, d5, hv⟩ := wown_slice hown; subst hv; have Y5 : Hid (w5.ownsRow W0.heap.size 39 1 (.slice o5 (M4 ++ dF).length d5) (M4 ++ dF).length (wv (M4 ++ dF)) ∧ Below W0.heap.size W0 w5) := ⟨hown, wbelow_grown Y4.out.2 Y4.out.1 hgr Y4.out.2.size⟩; clear hown hgr; obtain ⟨M5, hM5⟩ : ∃ M, M4 ++ dF = M := ⟨_, rfl⟩; rw [hM5] at Y5; rw [hM5]; have HM5 : Hid (M4 ++ dF = M5) := hM5; have hl5 : M5.length ≤ 5600000 := (by rw [← hM5, List.length_append]; omega); clear hM5 c0 c1 c2 c3 c4 l0; obtain ⟨⟨c0, c1, c2, c3, c4⟩, l0, _⟩ := HX.out w5 Y5.out.2)
  go_wp2_with fail
  refine (withLinks_calls W0.heap.size o5 d5 M5 dl dlc dn w5 Y5.out.1 (fun wx hx => (HX.out wx (Y5.out.2.trans hx)).2.2.2.dn) Y5.out.2.size (by omega) (by omega)).mono ?_
  rintro e w6 ⟨o6, d6, rfl, hown, hb⟩
  have Y6 : Hid (w6.ownsRow W0.heap.size 39 1 (.slice o6 (M5 ++ lksW dn).length d6) (M5 ++ lksW dn).length (wv (M5 ++ lksW dn)) ∧ Below W0.heap.size W0 w6) := ⟨hown, Y5.out.2.trans hb⟩
  obtain ⟨M6, hM6⟩ : ∃ M, M5 ++ lksW dn = M := ⟨_, rfl⟩
  rw [hM6] at Y6
  rw [hM6]
  have HM6 : Hid (M5 ++ lksW dn = M6) := hM6
  clear hown hb hM6 c0 c1 c2 c3 c4 l0
  go_wp2
  go_ret
  have e6 : imW ⟨nd, uF, up, dF, dn⟩ = M6 := by rw [HIM.out, ← HM6.out, ← HM5.out, ← HM4.out, ← HM3.out, ← HM2.out, ← HM1.out]; rfl
  exact ⟨o6, d6, by rw [e6]; rfl, by rw [e6]; exact wown_base Y6.out.1 HSZ.out, (HX.out w6 Y6.out.2).2.2.1⟩
end Go.Proofs.YtamedcnjanichabGreatDoor

namespace Go.Proofs.YtamedcnjanichabGreatDoor.Hi
open Go.RowKit Go.Extern Go.Shelf

attribute [local go_sem] Oper.semAt_some

/-- viaductref10.link at any link. -/
theorem rlink_calls (v : HV) (h : Hr) (mo : Option Addr) (mc i : Nat) (w : World) (hH : HasH w v h) (hR : HasRk w (.slice mo (stds h).length mc) h) (hu : FOk h.upF h.up.length) (hd : FOk h.dnF h.dn.length) (hN : h.node.length ≤ 65536) (hL : h.up.length + h.dn.length ≤ 1048576) (hi : i < (stds h).length) :
    Calls Tryz.prog 62 #[hvl v h, .slice mo (stds h).length mc, .int .i64 (i : Int)] w fun e w' => RA w (if lerr h.node.length (stds h) i = 0 then ((0 : Int), ([] : List (Int × Int))) else (lerr h.node.length (stds h) i, [(4, (i : Int))])) e w' := by
  by_cases g1 : (rising (stds h) i = false ∨ (sd (stds h) i).lk.hd ≤ (sd (stds h) i).rk ∨ h.node.length ≤ (sd (stds h) i).lk.hd) ∨ (sd (stds h) i).lk.plain = true ∨ (stds h).length ≤ (sd (stds h) i).lk.lf ∨ (stds h).length ≤ (sd (stds h) i).lk.rt ∨ (sd (stds h) i).lk.lf < h.up.length ∨ h.up.length ≤ (sd (stds h) i).lk.rt
  · exact rlink_form v h mo mc i w hH hR hu hd hN hL hi g1
  · simp only [not_or] at g1
    exact rlink_deep v h mo mc i w hH hR hu hd hN hL hi ⟨by simp only [not_or]; exact g1.1, by simpa using g1.2.1, by omega, by omega, by omega, by omega⟩
theorem dc_res {W : World} {z : Nat} {x0 x1 : Value} {tmps : Array Value} (h1 : W.heap[z]? = some (.cells #[x0, x1] 46)) (t2 : tmps[2]?.getD undef = .pointer (some ⟨z, 0, none⟩)) :
    (results Tryz.f31 tmps).run Tryz.prog W = .ok (.agg #[x0, x1]) W := by
  have c0 : W.cell? ⟨z, 0, none⟩ = some x0 := by simp [World.cell?, h1]
  have c1 : W.cell? ⟨z, 1, none⟩ = some x1 := by simp [World.cell?, h1]
  simp [results, Tryz.results31, go_sem, t2, c0, c1]
theorem build_errs (c1 c2 : Int) (s1 s2 : Option Addr) (n1 n2 k1 k2 : Nat) (wx : World) : (Instr.buildSlice 102 2 #[(0, .agg #[.int .i64 c1, .slice s1 n1 k1]), (1, .agg #[.int .i64 c2, .slice s2 n2 k2])]).run Tryz.prog wx = .ok (.slice (some ⟨wx.heap.size, 0, none⟩) 2 2) (wx.alloc (.cells #[.int .i64 c1, .slice s1 n1 k1, .int .i64 c2, .slice s2 n2 k2] 46)) := by kernel_rfl
/-- places do not lie in a box of an error. -/
theorem pl_off {w : World} {b : Nat} {x : Int} {s1 : Option Addr} {s2 s3 k c : Nat} {lo : Option Addr} {T : TypeId} {ps : List (Int × Int)} (hz : w.heap[b]? = some (.cells #[.int .i64 x, .slice s1 s2 s3] T)) (hp : HasPlaces w (.slice lo k c) ps) (hne : ps ≠ []) : ∀ a, lo = some a → a.block ≠ b := by
  obtain ⟨ao, cap, e, hc⟩ := hp
  injection e with e1 _ _
  subst e1
  intro a ea eb
  obtain ⟨p, qs, rfl⟩ := List.exists_cons_of_ne_nil hne
  obtain ⟨b', off, e1, _, q0, q1⟩ := hc 0 p rfl
  rw [ea] at e1
  cases e1
  subst eb
  simp only [World.cell?, hz, Nat.zero_mul, Nat.add_zero] at q0 q1
  rcases off with _ | _ | off
  · simp at q1
  · simp at q0
  · simp at q0
theorem pl_sets {wx : World} {b : Nat} {x : Int} {s1 : Option Addr} {s2 s3 : Nat} {T : TypeId} {F : Int × List (Int × Int)} {fo : Option Addr} {fc : Nat} (hz : wx.heap[b]? = some (.cells #[.int .i64 x, .slice s1 s2 s3] T)) (hp : HasPlaces wx (.slice fo F.2.length fc) F.2) (u y : Value) : HasPlaces ((wx.setCell ⟨b, 0, none⟩ u).setCell ⟨b, 1, none⟩ y) (.slice fo F.2.length fc) F.2 := by
  by_cases hF : F.2 = []
  · rw [hF] at hp ⊢
    obtain ⟨ao, cap, e, _⟩ := hp
    exact ⟨ao, cap, e, fun j p hj => by simp at hj⟩
  · exact pl_far hp (by simp [World.setCell]) (fun j hj ⟨a, ea, eb⟩ => (Below.heap_setCell _ _ _ _ (by rw [← eb]; exact pl_off hz hp hF a ea)).trans (Below.heap_setCell _ _ _ _ (by rw [← eb]; exact pl_off hz hp hF a ea)))
theorem first_two {g : Nat} {E1 E2 : Int × List (Int × Int)} {l1 l2 : Option Addr} {k1 k2 : Nat} {T : TypeId} {w : World} (hg : w.heap[g]? = some (.cells #[.int .i64 E1.1, .slice l1 E1.2.length k1, .int .i64 E2.1, .slice l2 E2.2.length k2] T)) (h1 : HasPlaces w (.slice l1 E1.2.length k1) E1.2) (h2 : HasPlaces w (.slice l2 E2.2.length k2) E2.2) :
    Calls Tryz.prog 58 #[.slice (some ⟨g, 0, none⟩) 2 2] w fun e w' => RA w (orE E1 E2) e w' := by
  refine (rFirst_calls g 2 2 (fun k => if k = 0 then E1 else E2) (fun k => if k = 0 then l1 else l2) (fun k => if k = 0 then k1 else k2) w (by decide) (some_lt hg) ?_).mono ?_
  · intro k hk
    rcases k with _ | _ | k
    · exact ⟨by simp [World.cell?, hg], by simp [World.cell?, hg], h1⟩
    · exact ⟨by simp [World.cell?, hg], by simp [World.cell?, hg], h2⟩
    · omega
  · rintro e w' ⟨R, hR, hk⟩
    have e0 : R = orE E1 E2 := by
      unfold orE
      rcases hk with ⟨k, hk, hz, hn, rfl⟩ | ⟨hz, rfl⟩
      · rcases k with _ | _ | k
        · by_cases q : E1 = (0, [])
          · exact absurd (by simpa using q) hn
          · rw [if_neg q]; rfl
        · have q := hz 0 (by decide)
          simp only [if_true] at q
          rw [if_pos q]
          simp
        · omega
      · have q0 := hz 0 (by decide)
        have q1 := hz 1 (by decide)
        simp only [if_true] at q0
        simp only [Nat.one_ne_zero, if_false] at q1
        rw [if_pos q0, q1]
    rw [← e0]
    exact hR
theorem orE_zero (b : Int × List (Int × Int)) : orE (0, []) b = b := by simp [orE]
theorem orE_hit {a b : Int × List (Int × Int)} (h : a ≠ (0, [])) : orE a b = a := by unfold orE; rw [if_neg h]
theorem orE_two (a b c : Int × List (Int × Int)) : orE a (orE b c) = orE (orE a b) c := by
  unfold orE
  by_cases h : a = (0, [])
  · simp only [h, if_true]
  · simp only [h, if_false]

set_option maxRecDepth 100000 in
set_option maxHeartbeats 8000000 in
theorem docCheck10_aux (no uo ul wo dl : Option Addr) (nc uc ulc wc dlc : Nat) (h : Hr) (w : World) (hH : HasH w ⟨no, uo, ul, wo, dl, nc, uc, ulc, wc, dlc⟩ h) (hb1 : h.up.length ≤ 1152921504606846976) (hb2 : h.dn.length ≤ 1152921504606846976) (hb3 : h.node.length ≤ 1152921504606846976) :
    Calls Tryz.prog 31 #[hvl ⟨no, uo, ul, wo, dl, nc, uc, ulc, wc, dlc⟩ h] w fun e w' => RA w (chk h) e w' := by
  obtain ⟨z, hz⟩ : ∃ z, w.heap.size = z := ⟨_, rfl⟩
  obtain ⟨W0, hW0⟩ : ∃ W0, (w.alloc (.cells (cellsH ⟨no, uo, ul, wo, dl, nc, uc, ulc, wc, dlc⟩ h) 25)).alloc (.cells #[.int .i64 0, .slice none 0 0] 46) = W0 := ⟨_, rfl⟩
  have hB0 : Below w.heap.size w W0 := by rw [← hW0]; exact ((Below.refl _ w).alloc (Nat.le_refl _) _).alloc (by simp) _
  have h0 : W0.heap[z]? = some (.cells (cellsH ⟨no, uo, ul, wo, dl, nc, uc, ulc, wc, dlc⟩ h) 25) := by
    rw [← hW0, ← hz]; exact (Below.heap_alloc _ _ _ (by simp)).trans (heap_newW _ _)
  have h1 : W0.heap[z + 1]? = some (.cells #[.int .i64 0, .slice none 0 0] 46) := by
    have g := heap_newW (w.alloc (.cells (cellsH ⟨no, uo, ul, wo, dl, nc, uc, ulc, wc, dlc⟩ h) 25)) (.cells #[.int .i64 0, .slice none 0 0] 46)
    rw [World.size_alloc, hW0, hz] at g
    exact g
  have HS0 : Hid (z + 1 < W0.heap.size) := some_lt h1
  have HQ : Hid (∀ wx, Below W0.heap.size W0 wx → (wx.cell? ⟨z, 0, none⟩ = some (.slice no h.node.length nc) ∧ wx.cell? ⟨z, 1, none⟩ = some (.slice uo h.upF.length uc) ∧ wx.cell? ⟨z, 2, none⟩ = some (.slice ul h.up.length ulc) ∧ wx.cell? ⟨z, 3, none⟩ = some (.slice wo h.dnF.length wc) ∧ wx.cell? ⟨z, 4, none⟩ = some (.slice dl h.dn.length dlc)) ∧ wx.heap[z + 1]? = some (.cells #[.int .i64 0, .slice none 0 0] 46) ∧ HasH wx ⟨no, uo, ul, wo, dl, nc, uc, ulc, wc, dlc⟩ h ∧ Below w.heap.size w wx) := fun wx hx => by
    have g := hB0.trans (hx.mono hB0.size)
    exact ⟨five_cells ((hx.block _ (some_lt h0)).trans h0), (hx.block _ (some_lt h1)).trans h1, hH.keep g, g⟩
  have HEND : Hid (∀ wx, Below W0.heap.size W0 wx → ∀ (F : Int × List (Int × Int)) (fo : Option Addr) (fc : Nat), HasPlaces wx (.slice fo F.2.length fc) F.2 → RA w F (.returned (.agg #[.int .i64 F.1, .slice fo F.2.length fc])) ((wx.setCell ⟨z + 1, 0, none⟩ (.int .i64 F.1)).setCell ⟨z + 1, 1, none⟩ (.slice fo F.2.length fc)) ∧ ((wx.setCell ⟨z + 1, 0, none⟩ (.int .i64 F.1)).setCell ⟨z + 1, 1, none⟩ (.slice fo F.2.length fc)).heap[z + 1]? = some (.cells #[.int .i64 F.1, .slice fo F.2.length fc] 46)) := fun wx hx F fo fc hp =>
    ⟨⟨fo, fc, rfl, pl_sets (HQ.out wx hx).2.1 hp _ _, ((HQ.out wx hx).2.2.2.setCell (p := ⟨z + 1, 0, none⟩) (by show w.heap.size ≤ z + 1; omega) _).setCell (p := ⟨z + 1, 1, none⟩) (by show w.heap.size ≤ z + 1; omega) _⟩, set_err (HQ.out wx hx).2.1 _ _⟩
  have HW0 : Hid ((w.alloc (.cells (cellsH ⟨no, uo, ul, wo, dl, nc, uc, ulc, wc, dlc⟩ h) 25)).alloc (.cells #[.int .i64 0, .slice none 0 0] 46) = W0) := hW0
  have HB0 : Hid (Below W0.heap.size W0 W0) := Below.refl _ _
  have HHH : Hid (∀ wx, Below W0.heap.size W0 wx → HasH wx ⟨no, uo, ul, wo, dl, nc, uc, ulc, wc, dlc⟩ h) := fun wx hx => (HQ.out wx hx).2.2.1
  have HHV : Hid (hvl ⟨no, uo, ul, wo, dl, nc, uc, ulc, wc, dlc⟩ h = hvl ⟨no, uo, ul, wo, dl, nc, uc, ulc, wc, dlc⟩ h) := rfl
  obtain ⟨c0, c1, c2, c3, c4⟩ := (HQ.out W0 (Below.refl _ _)).1
  clear hW0 h0 h1 hB0 hH
  unfold cellsH at HW0
  unfold hvl
  obtain ⟨n, hn⟩ : ∃ n, h.node.length = n := ⟨_, rfl⟩
  obtain ⟨a, ha⟩ : ∃ a, h.up.length = a := ⟨_, rfl⟩
  obtain ⟨b, hb⟩ : ∃ b, h.dn.length = b := ⟨_, rfl⟩
  have HC : Hid (chk h = if 65536 < n ∨ 1048576 < a + b then (9, []) else if h.upF.length ≠ n + 1 ∨ h.dnF.length ≠ n + 1 then (14, []) else orE (cf h.upF a) (orE (cf h.dnF b) (orE (cn h.node) (cl n (stds h))))) := by show _ = _; rw [chk, hn, ha, hb]
  have HL : Hid (h.node.length = n ∧ h.up.length = a ∧ h.dn.length = b) := ⟨hn, ha, hb⟩
  rw [hn] at c0 HQ hb3 HW0 ⊢
  rw [ha] at c2 HQ hb1 HW0 ⊢
  rw [hb] at c4 HQ hb2 HW0 ⊢
  clear hn ha hb
  have wab : IntKind.i64.wrap ((a : Int) + (b : Int)) = (a : Int) + (b : Int) := by rw [IntKind.wrap_i64]; omega
  have wn1 : IntKind.i64.wrap ((n : Int) + 1) = (n : Int) + 1 := by rw [IntKind.wrap_i64]; omega
  by_cases hn : 65536 < n
  · have d1 : decide ((n : Int) > 65536) = true := by simp; omega
    have d1x : decide ((65536 : Int) < n) = true := by simp; omega
    have d2 : decide (65536 < n) = true := by simp; omega
    go_enter Tryz.func31, Tryz.ntmps31
    go_upto_region 1 with fail
    rw [HW0.out]
    go_wp2_with fail
    refine (E_calls 9 W0).mono ?_
    rintro e w1 ⟨rfl, hb9⟩
    have HB1 : Hid (Below W0.heap.size W0 w1) := hb9
    clear hb9
    obtain ⟨d0, d1', f0, f1⟩ := cell_two (HQ.out w1 HB1.out).2.1
    go_wp2
    obtain ⟨r1, r2⟩ := HEND.out w1 HB1.out (9, []) none 0 (pl_nil _)
    exact bodyPost_ret (dc_res r2 rfl) rfl (by rw [HC.out, if_pos (Or.inl hn)]; exact r1)
  have d1 : decide ((n : Int) > 65536) = false := by simp; omega
  have d1x : decide ((65536 : Int) < n) = false := by simp; omega
  have d2 : decide (65536 < n) = false := by simp; omega
  by_cases hab : 1048576 < a + b
  · have d3 : decide ((a : Int) + (b : Int) > 1048576) = true := by simp; omega
    have d3x : decide ((1048576 : Int) < (a : Int) + (b : Int)) = true := by simp; omega
    go_enter Tryz.func31, Tryz.ntmps31
    go_upto_region 1 with fail
    rw [HW0.out]
    go_wp2_with fail
    refine (E_calls 9 W0).mono ?_
    rintro e w1 ⟨rfl, hb9⟩
    have HB1 : Hid (Below W0.heap.size W0 w1) := hb9
    clear hb9
    obtain ⟨d0, d1', f0, f1⟩ := cell_two (HQ.out w1 HB1.out).2.1
    go_wp2
    obtain ⟨r1, r2⟩ := HEND.out w1 HB1.out (9, []) none 0 (pl_nil _)
    exact bodyPost_ret (dc_res r2 rfl) rfl (by rw [HC.out, if_pos (Or.inr hab)]; exact r1)
  have d3 : decide ((a : Int) + (b : Int) > 1048576) = false := by simp; omega
  have d3x : decide ((1048576 : Int) < (a : Int) + (b : Int)) = false := by simp; omega
  rw [if_neg (by simp only [not_or]; exact ⟨hn, hab⟩)] at HC
  obtain ⟨fu, hfu⟩ : ∃ fu, h.upF.length = fu := ⟨_, rfl⟩
  obtain ⟨fd, hfd⟩ : ∃ fd, h.dnF.length = fd := ⟨_, rfl⟩
  have HL2 : Hid (h.upF.length = fu ∧ h.dnF.length = fd) := ⟨hfu, hfd⟩
  rw [hfu] at c1 HQ HC HW0 ⊢
  rw [hfd] at c3 HQ HC HW0 ⊢
  clear hfu hfd
  by_cases hf1 : ¬ fu = n + 1
  · have d4 : ((fu : Int) != (n : Int) + 1) = true := by simp; omega
    go_enter Tryz.func31, Tryz.ntmps31
    go_upto_region 1 with fail
    rw [HW0.out]
    go_wp2_with fail
    refine (E_calls 14 W0).mono ?_
    rintro e w1 ⟨rfl, hb9⟩
    have HB1 : Hid (Below W0.heap.size W0 w1) := hb9
    clear hb9
    obtain ⟨d0, d1', f0, f1⟩ := cell_two (HQ.out w1 HB1.out).2.1
    go_wp2
    obtain ⟨r1, r2⟩ := HEND.out w1 HB1.out (14, []) none 0 (pl_nil _)
    exact bodyPost_ret (dc_res r2 rfl) rfl (by rw [HC.out, if_pos (Or.inl hf1)]; exact r1)
  have hf1 : fu = n + 1 := by omega
  have d4 : ((fu : Int) != (n : Int) + 1) = false := by simp; omega
  by_cases hf2 : ¬ fd = n + 1
  · have d5 : ((fd : Int) != (n : Int) + 1) = true := by simp; omega
    have HF2 : Hid (¬ fd = n + 1) := hf2
    clear hf1 hf2
    go_enter Tryz.func31, Tryz.ntmps31
    go_upto_region 1 with fail
    rw [HW0.out]
    go_wp2_with fail
    refine (E_calls 14 W0).mono ?_
    rintro e w1 ⟨rfl, hb9⟩
    have HB1 : Hid (Below W0.heap.size W0 w1) := hb9
    clear hb9
    obtain ⟨d0, d1', f0, f1⟩ := cell_two (HQ.out w1 HB1.out).2.1
    go_wp2
    obtain ⟨r1, r2⟩ := HEND.out w1 HB1.out (14, []) none 0 (pl_nil _)
    exact bodyPost_ret (dc_res r2 rfl) rfl (by rw [HC.out, if_pos (Or.inr HF2.out)]; exact r1)
  have hf2 : fd = n + 1 := by omega
  have d5 : ((fd : Int) != (n : Int) + 1) = false := by simp; omega
  rw [if_neg (by simp [hf1, hf2])] at HC
  have HF : Hid (fu = n + 1 ∧ fd = n + 1) := ⟨hf1, hf2⟩
  have HN : Hid (n ≤ 65536 ∧ a + b ≤ 1048576) := ⟨by omega, by omega⟩
  clear hf1 hf2
  have HC1 : Hid (∀ wx, Below W0.heap.size W0 wx → Calls Tryz.prog 59 #[.slice uo fu uc, .int .i64 (n : Int), .int .i64 (a : Int)] wx fun e w' => RA wx (cf h.upF a) e w') := fun wx hx => by
    have hh := (HHH.out wx hx).upF
    have q := firsts_calls uo uc n a h.upF wx hh (by rw [HL2.out.1]; exact HF.out.1) HN.out.1 (by omega)
    rw [HL2.out.1] at q
    exact q
  have HC2 : Hid (∀ wx, Below W0.heap.size W0 wx → Calls Tryz.prog 59 #[.slice wo fd wc, .int .i64 (n : Int), .int .i64 (b : Int)] wx fun e w' => RA wx (cf h.dnF b) e w') := fun wx hx => by
    have hh := (HHH.out wx hx).dnF
    have q := firsts_calls wo wc n b h.dnF wx hh (by rw [HL2.out.2]; exact HF.out.2) HN.out.1 (by omega)
    rw [HL2.out.2] at q
    exact q
  obtain ⟨EA, hEA⟩ : ∃ E, cf h.upF a = E := ⟨_, rfl⟩
  obtain ⟨EB, hEB⟩ : ∃ E, cf h.dnF b = E := ⟨_, rfl⟩
  obtain ⟨EC, hEC⟩ : ∃ E, orE EA EB = E := ⟨_, rfl⟩
  have HEA : Hid (cf h.upF a = EA) := hEA
  have HEB : Hid (cf h.dnF b = EB) := hEB
  have HEC : Hid (orE EA EB = EC) := hEC
  have HCE : Hid (chk h = orE EC (orE (cn h.node) (cl n (stds h)))) := by show _ = _; rw [HC.out, orE_two, hEA, hEB, hEC]
  clear hEA hEB hEC
  go_enter Tryz.func31, Tryz.ntmps31
  go_upto_region 1 with fail
  rw [HW0.out]
  go_wp2_with fail
  rename_i K6 aK6
  have KEY6 : ∀ (b11 b12 b13 b14 b15 b16 b17 b18 b19 b20 b21 b22 b23 b24 b25 b26 b27 b28 b29 b30 b31 b32 b33 b34 b35 b36 b37 b38 b39 b40 b41 b42 b43 b44 b45 b46 b47 b48 b49 b50 b51 b52 b53 b54 b55 b56 b57 b58 b59 : Value) (q : Nat) (l3 : Option Addr) (k3 : Nat) (WX : World), Hid (WX.heap[q]? = some (.cells #[.int .i64 EC.1, .slice l3 EC.2.length k3] 46) ∧ HasPlaces WX (.slice l3 EC.2.length k3) EC.2 ∧ Below W0.heap.size W0 WX) → K6 { tmps := #[(.agg #[.slice no n nc, .slice uo fu uc, .slice ul a ulc, .slice wo fd wc, .slice dl b dlc]), (.pointer (some ⟨z, 0, none⟩)), (.pointer (some ⟨z + 1, 0, none⟩)), (.int .i64 (n : Int)), (.pointer (some ⟨q, 0, none⟩)), undef, undef, undef, undef, undef, undef, b11, b12, b13, b14, b15, b16, b17, b18, b19, b20, b21, b22, b23, b24, b25, b26, b27, b28, b29, b30, b31, b32, b33, b34, b35, b36, b37, b38, b39, b40, b41, b42, b43, b44, b45, b46, b47, b48, b49, b50, b51, b52, b53, b54, b55, b56, b57, b58, b59, undef, undef, undef, undef, undef, undef, undef, undef, undef, undef, undef, undef, undef, undef, undef, undef, undef, undef, undef, undef, undef, undef, undef, undef, undef, undef, undef, undef, undef, undef, undef, undef, undef, undef, undef, undef, undef, undef, undef, undef, undef, undef, undef, undef, undef, undef, undef], defers := [] } WX := by
    clear c0 c1 c2 c3 c4
    intro b11 b12 b13 b14 b15 b16 b17 b18 b19 b20 b21 b22 b23 b24 b25 b26 b27 b28 b29 b30 b31 b32 b33 b34 b35 b36 b37 b38 b39 b40 b41 b42 b43 b44 b45 b46 b47 b48 b49 b50 b51 b52 b53 b54 b55 b56 b57 b58 b59 q l3 k3 WX HX
    refine aK6 _ _ ?_
    obtain ⟨q0, q1, _, _⟩ := cell_two HX.out.1
    go_wp2_with fail
    refine (bad_calls EC.1 l3 EC.2.length k3 WX).mono ?_
    rintro e wb ⟨rfl, hb9⟩
    rw [bad_iff]
    have HBW : Hid (Below W0.heap.size W0 wb) := btrH' HX.out.2.2 hb9
    have HXB : Hid (wb.heap[q]? = some (.cells #[.int .i64 EC.1, .slice l3 EC.2.length k3] 46) ∧ HasPlaces wb (.slice l3 EC.2.length k3) EC.2) := ⟨(hb9.block _ (some_lt HX.out.1)).trans HX.out.1, HX.out.2.1.keep hb9⟩
    clear hb9 q0 q1
    by_cases hE : EC = (0, [])
    · have j1 : decide (EC = (0, [])) = true := by simpa using hE
      have HOKs : Hid (FOk h.upF h.up.length ∧ FOk h.dnF h.dn.length) := by
        have q := hE
        rw [← HEC.out, orE_ok, ← HEA.out, ← HEB.out] at q
        exact ⟨by rw [HL.out.2.1]; exact (cf_ok (by rw [HL2.out.1, HF.out.1]; omega)).1 q.1, by rw [HL.out.2.2]; exact (cf_ok (by rw [HL2.out.2, HF.out.2]; omega)).1 q.2⟩
      have HC9 : Hid (chk h = orE (cn h.node) (cl n (stds h))) := by show _ = _; rw [HCE.out, hE, orE_zero]
      clear hE
      have hmk := run_make_row' (P := Tryz.prog) 103 4 (.bool false) 1 Tryz.underlying103 infoBo rfl .i64 .i64 n (by omega) (by omega)
      obtain ⟨sB, hsB⟩ : ∃ s, wb.heap.size = s := ⟨_, rfl⟩
      have HSB : Hid (W0.heap.size ≤ sB) := by rw [← hsB]; exact HBW.out.size
      obtain ⟨W9, hW9⟩ : ∃ W9, wb.alloc (.cells (madeCells #[.bool false] n) 4) = W9 := ⟨_, rfl⟩
      have HW9 : Hid (wb.alloc (.cells (madeCells #[.bool false] n) 4) = W9) := hW9
      have HS9 : Hid (SeenAt W9 sB n (h.node.take 0) ∧ Below W0.heap.size W0 W9) := by rw [← hW9, ← hsB]; exact ⟨seen_new wb n, HBW.out.alloc HBW.out.size _⟩
      clear hW9
      go_upto_region 10 with fail
      rw [HW9.out]
      clear HW9 hmk hsB
      obtain ⟨c0, c1, c2, c3, c4⟩ := (HQ.out W9 HS9.out.2).1
      go_wp2_with fail
      clear c0 c1 c2 c3 c4
      go_loopw [68] (fun iv wr => ∃ k : Nat, k ≤ n ∧ iv = .int .i64 k ∧ Hid (ferr 3 (cnF h.node) 0 n = ferr 3 (cnF h.node) k (n - k)) ∧ Hid (SeenAt wr sB n (h.node.take k)) ∧ Hid (Below W0.heap.size W0 wr)) (fun iv _ => n - (intOf iv).toNat)
      case atStart => exact ⟨0, by omega, rfl, rfl, HS9.out.1, HS9.out.2⟩
      case round =>
        obtain ⟨k, hk, rfl, HFE, HSe, HB⟩ := hrel
        rcases Nat.lt_or_eq_of_le hk with h1 | h1
        · have hnd := (HHH.out wr HB.out).node
          rw [HL.out.1] at hnd
          obtain ⟨nb, noff, e1, hbl, hc⟩ := hnd.cells (by omega)
          clear hnd
          subst e1
          have ck := hc k h1
          clear hc
          obtain ⟨x, hx⟩ : ∃ x, nth h.node k = x := ⟨_, rfl⟩
          have hx9 : x < 4294967296 := by rw [← hx]; exact (HHH.out wr HB.out).node.small k
          have y1 : IntKind.u64.wrap (x : Int) = (x : Int) := by rw [IntKind.wrap_u64]; omega
          have y2 : IntKind.u64.wrap (n : Int) = (n : Int) := by rw [IntKind.wrap_u64]; omega
          have y3 : IntKind.i64.wrap (x : Int) = (x : Int) := by rw [IntKind.wrap_i64]; omega
          have HX9 : Hid (cnF h.node k = if n ≤ x ∨ x ∈ h.node.take k then 20 else 0) := by show _ = _; unfold cnF; rw [hx, HL.out.1]
          have HT : Hid (h.node.take (k + 1) = h.node.take k ++ [x]) := by rw [← hx]; exact take_snoc (by rw [HL.out.1]; exact h1)
          rw [hx] at ck
          clear hx
          have q6 : decide ((k : Int) < (n : Int)) = true := by simp; omega
          have i2 : (0 : Int) ≤ (k : Int) := by omega
          have i3 : (k : Int) < (n : Int) := by omega
          have i4 : (0 : Int) ≤ (x : Int) := by omega
          by_cases hxn : n ≤ x
          · have d6 : decide ((x : Int) ≥ (n : Int)) = true := by simp; omega
            have d7 : decide (n ≤ x) = true := by simpa using hxn
            have HR : Hid (chk h = (20, [((3 : Int), (k : Int))])) := by
              show _ = _
              have hne : cnF h.node k ≠ 0 := by rw [HX9.out, if_pos (Or.inl hxn)]; decide
              rw [HC9.out, cn, HL.out.1, HFE.out, ferr_hit h1 hne, HX9.out, if_pos (Or.inl hxn)]
              exact orE_hit (by simp)
            go_wp2_with fail
            refine (E_calls 20 wr).mono ?_
            rintro e y1 ⟨rfl, hy1⟩
            have HY1 : Hid (Below W0.heap.size W0 y1) := btrH' HB.out hy1
            clear hy1
            go_wp2_with fail
            refine (refAt_calls 3 (k : Int) 20 y1).mono ?_
            rintro e y2 ⟨g, rfl, hg, hy2⟩
            have HY2 : Hid (Below W0.heap.size W0 y2) := btrH' HY1.out hy2
            have HG : Hid (HasPlaces y2 (.slice (some ⟨g, 0, none⟩) 1 1) [(3, (k : Int))]) := pl_one hg
            clear hy2 hg
            obtain ⟨d0, d1', f0, f1⟩ := cell_two (HQ.out y2 HY2.out).2.1
            go_wp2
            obtain ⟨r1, r2⟩ := HEND.out y2 HY2.out (20, [(3, (k : Int))]) (some ⟨g, 0, none⟩) 1 HG.out
            exact bodyPost_ret (dc_res r2 rfl) rfl (by rw [HR.out]; exact r1)
          have d6 : decide ((x : Int) ≥ (n : Int)) = false := by simp; omega
          have d7 : decide (n ≤ x) = false := by simpa using hxn
          have cs := HSe.out.cell x (by omega)
          have fs := HSe.out.free x
          have hxi : (x : Int) < (n : Int) := by omega
          by_cases hm : x ∈ h.node.take k
          · have HR : Hid (chk h = (20, [((3 : Int), (k : Int))])) := by
              show _ = _
              have hne : cnF h.node k ≠ 0 := by rw [HX9.out, if_pos (Or.inr hm)]; decide
              rw [HC9.out, cn, HL.out.1, HFE.out, ferr_hit h1 hne, HX9.out, if_pos (Or.inr hm)]
              exact orE_hit (by simp)
            rw [decide_eq_true hm] at cs
            clear hm
            go_wp2_with fail
            refine (E_calls 20 wr).mono ?_
            rintro e y1 ⟨rfl, hy1⟩
            have HY1 : Hid (Below W0.heap.size W0 y1) := btrH' HB.out hy1
            clear hy1
            go_wp2_with fail
            refine (refAt_calls 3 (k : Int) 20 y1).mono ?_
            rintro e y2 ⟨g, rfl, hg, hy2⟩
            have HY2 : Hid (Below W0.heap.size W0 y2) := btrH' HY1.out hy2
            have HG : Hid (HasPlaces y2 (.slice (some ⟨g, 0, none⟩) 1 1) [(3, (k : Int))]) := pl_one hg
            clear hy2 hg
            obtain ⟨d0, d1', f0, f1⟩ := cell_two (HQ.out y2 HY2.out).2.1
            go_wp2
            obtain ⟨r1, r2⟩ := HEND.out y2 HY2.out (20, [(3, (k : Int))]) (some ⟨g, 0, none⟩) 1 HG.out
            exact bodyPost_ret (dc_res r2 rfl) rfl (by rw [HR.out]; exact r1)
          · have HR : Hid (ferr 3 (cnF h.node) 0 n = ferr 3 (cnF h.node) (k + 1) (n - (k + 1))) := by
              show _ = _
              rw [HFE.out, ferr_step h1 (by rw [HX9.out, if_neg (by simp only [not_or]; exact ⟨hxn, hm⟩)])]
            have HN2 : Hid (SeenAt (wr.setCell ⟨sB, x, none⟩ (.bool true)) sB n (h.node.take (k + 1)) ∧ Below W0.heap.size W0 (wr.setCell ⟨sB, x, none⟩ (.bool true))) := ⟨by rw [HT.out]; exact HSe.out.set (by omega), HB.out.setCell (p := ⟨sB, x, none⟩) HSB.out _⟩
            rw [decide_eq_false hm] at cs
            clear hm
            go_wp2
            go_roundw
            case rel => exact ⟨k + 1, by omega, by simp, HR, HN2.out.1, HN2.out.2⟩
            case measure => simp [intOf]; omega
        · subst h1
          have HC10 : Hid (chk h = cl k (stds h)) := by
            show _ = _
            rw [HC9.out, cn, HL.out.1, HFE.out, ferr_end, orE_zero]
          have q6 : decide ((k : Int) < (k : Int)) = false := by simp
          obtain ⟨c0, c1, c2, c3, c4⟩ := (HQ.out wr HB.out).1
          have HRN : Hid (Calls Tryz.prog 61 #[(.agg #[.slice no k nc, .slice uo fu uc, .slice ul a ulc, .slice wo fd wc, .slice dl b dlc])] wr fun e w' => ∃ mo mc, e = .returned (.slice mo (stds h).length mc) ∧ HasRk w' (.slice mo (stds h).length mc) h ∧ Below wr.heap.size wr w') := by
            have q := ranksR_calls ⟨no, uo, ul, wo, dl, nc, uc, ulc, wc, dlc⟩ h wr (HHH.out wr HB.out) HOKs.out.1 HOKs.out.2 (by rw [HL2.out.1, HF.out.1]; have := HN.out.1; omega) (by rw [HL2.out.2, HF.out.2]; have := HN.out.1; omega) (by rw [HL.out.2.1, HL.out.2.2]; exact HN.out.2)
            unfold hvl at q
            rw [HL.out.1, HL.out.2.1, HL.out.2.2, HL2.out.1, HL2.out.2] at q
            refine q.mono ?_
            rintro e w' ⟨mo, mc, rfl, ho, hb⟩
            exact ⟨mo, mc, rfl, ⟨_, mo, mc, rfl, ho⟩, hb⟩
          go_wp2_with fail
          refine HRN.out.mono ?_
          rintro e w17 ⟨mo, mc, rfl, hrk, hb17⟩
          have HB17 : Hid (Below W0.heap.size W0 w17) := btrH' HB.out hb17
          have HRK : Hid (HasRk w17 (.slice mo (stds h).length mc) h) := hrk
          clear hb17 hrk c0 c1 c2 c3 c4 HRN
          have HLKC : Hid (∀ wx, Below w17.heap.size w17 wx → ∀ j, j < (stds h).length → Calls Tryz.prog 62 #[(.agg #[.slice no k nc, .slice uo fu uc, .slice ul a ulc, .slice wo fd wc, .slice dl b dlc]), .slice mo (stds h).length mc, .int .i64 (j : Int)] wx fun e w' => RA wx (if lerr k (stds h) j = 0 then ((0 : Int), ([] : List (Int × Int))) else (lerr k (stds h) j, [(4, (j : Int))])) e w') := fun wx hx j hj => by
            have q := rlink_calls ⟨no, uo, ul, wo, dl, nc, uc, ulc, wc, dlc⟩ h mo mc j wx (HHH.out wx (btrH' HB17.out hx)) (HRK.out.keep hx) HOKs.out.1 HOKs.out.2 (by rw [HL.out.1]; exact HN.out.1) (by rw [HL.out.2.1, HL.out.2.2]; exact HN.out.2) hj
            unfold hvl at q
            rw [HL.out.1, HL.out.2.1, HL.out.2.2, HL2.out.1, HL2.out.2] at q
            exact q
          obtain ⟨m, hm⟩ : ∃ m, (stds h).length = m := ⟨_, rfl⟩
          have HM : Hid ((stds h).length = m ∧ m ≤ 1048576) := ⟨hm, by have q := stds_len HOKs.out.1 HOKs.out.2; rw [HL.out.2.1, HL.out.2.2] at q; have := HN.out.2; omega⟩
          have hmb : m ≤ 1048576 := HM.out.2
          rw [hm] at HLKC ⊢
          clear hm
          have HCL : Hid (cl k (stds h) = ferr 4 (lerr k (stds h)) 0 (m - 0)) := by show _ = _; rw [cl, HM.out.1, Nat.sub_zero]
          go_wp2_with fail
          go_loopw [95] (fun iv wq => ∃ j : Nat, j ≤ m ∧ iv = .int .i64 j ∧ Hid (Below w17.heap.size w17 wq) ∧ Hid (cl k (stds h) = ferr 4 (lerr k (stds h)) j (m - j))) (fun iv _ => m - (intOf iv).toNat)
          case atStart => exact ⟨0, Nat.zero_le _, rfl, Below.refl _ _, HCL.out⟩
          case round =>
            obtain ⟨j, hj, rfl, HBJ, HCJ⟩ := hrel
            rcases Nat.lt_or_eq_of_le hj with h2 | h2
            · have qj : decide ((j : Int) < (m : Int)) = true := by simp; omega
              obtain ⟨Ek, hEk⟩ : ∃ E, (if lerr k (stds h) j = 0 then ((0 : Int), ([] : List (Int × Int))) else (lerr k (stds h) j, [(4, (j : Int))])) = E := ⟨_, rfl⟩
              have HEK : Hid ((if lerr k (stds h) j = 0 then ((0 : Int), ([] : List (Int × Int))) else (lerr k (stds h) j, [(4, (j : Int))])) = Ek) := hEk
              have HLJ := HLKC.out wr HBJ.out j h2
              rw [hEk] at HLJ
              have HLJH : Hid (type_of% HLJ) := HLJ
              clear HLJ hEk
              obtain ⟨c0, c1, c2, c3, c4⟩ := (HQ.out wr (btrH' HB17.out HBJ.out)).1
              go_wp2_with fail
              refine HLJH.out.mono ?_
              rintro e y1 ⟨lo, lc, rfl, hp, hy⟩
              have HY : Hid (Below w17.heap.size w17 y1) := btrH' HBJ.out hy
              have HPL : Hid (HasPlaces y1 (.slice lo Ek.2.length lc) Ek.2) := hp
              obtain ⟨bx, hbx⟩ : ∃ s, y1.heap.size = s := ⟨_, rfl⟩
              obtain ⟨W2, hW2⟩ : ∃ W2, y1.alloc (.cells #[.int .i64 Ek.1, .slice lo Ek.2.length lc] 46) = W2 := ⟨_, rfl⟩
              have HW2 : Hid (y1.alloc (.cells #[.int .i64 Ek.1, .slice lo Ek.2.length lc] 46) = W2) := hW2
              have HZ2 : Hid (∀ wx, Below W2.heap.size W2 wx → wx.heap[bx]? = some (.cells #[.int .i64 Ek.1, .slice lo Ek.2.length lc] 46) ∧ HasPlaces wx (.slice lo Ek.2.length lc) Ek.2 ∧ Below w17.heap.size w17 wx) := fun wx hx => by
                have q : W2.heap[bx]? = some (.cells #[.int .i64 Ek.1, .slice lo Ek.2.length lc] 46) := by rw [← hW2, ← hbx]; exact heap_newW _ _
                have qb : Below y1.heap.size y1 W2 := by rw [← hW2]; exact (Below.refl _ _).alloc (Nat.le_refl _) _
                exact ⟨(hx.block _ (some_lt q)).trans q, HPL.out.keep (btrH' qb hx), btrH' (btrH' HY.out qb) hx⟩
              clear hp hy hW2 c0 c1 c2 c3 c4 HLJH
              go_upto_region 22 with fail
              rw [HW2.out]
              clear HW2
              obtain ⟨p0, p1, _, _⟩ := cell_two (HZ2.out W2 (Below.refl _ _)).1
              go_wp2_with fail
              refine (bad_calls Ek.1 lo Ek.2.length lc W2).mono ?_
              rintro e y2 ⟨rfl, hb2'⟩
              rw [bad_iff]
              have HY2 : Hid (Below W2.heap.size W2 y2) := hb2'
              clear hb2' p0 p1
              by_cases hE : Ek = (0, [])
              · have j1 : decide (Ek = (0, [])) = true := by simpa using hE
                have HER : Hid (lerr k (stds h) j = 0) := by
                  show _ = _
                  have q := HEK.out
                  rw [hE] at q
                  by_cases g : lerr k (stds h) j = 0
                  · exact g
                  · rw [if_neg g] at q; simp at q
                have HST : Hid (cl k (stds h) = ferr 4 (lerr k (stds h)) (j + 1) (m - (j + 1))) := by show _ = _; rw [HCJ.out, ferr_step h2 HER.out]
                go_wp2
                go_roundw
                case rel => exact ⟨j + 1, by omega, by go_num, (HZ2.out y2 HY2.out).2.2, HST.out⟩
                case measure => simp [intOf]; omega
              · have j1 : decide (Ek = (0, [])) = false := by simpa using hE
                have HER : Hid (chk h = Ek) := by
                  show _ = _
                  have q := HEK.out
                  by_cases g : lerr k (stds h) j = 0
                  · rw [if_pos g] at q; exact absurd q.symm hE
                  · rw [if_neg g] at q
                    rw [HC10.out, HCJ.out, ferr_hit h2 g, q]
                obtain ⟨p0, p1, _, _⟩ := cell_two (HZ2.out y2 HY2.out).1
                obtain ⟨d0, d1', f0, f1⟩ := cell_two (HQ.out y2 (btrH' HB17.out (HZ2.out y2 HY2.out).2.2)).2.1
                go_wp2
                obtain ⟨r1, r2⟩ := HEND.out y2 (btrH' HB17.out (HZ2.out y2 HY2.out).2.2) Ek lo lc (HZ2.out y2 HY2.out).2.1
                exact bodyPost_ret (dc_res r2 rfl) rfl (by rw [HER.out]; exact r1)
            · subst h2
              have qj : decide ((j : Int) < (j : Int)) = false := by simp
              have HER : Hid (chk h = (0, [])) := by show _ = _; rw [HC10.out, HCJ.out, ferr_end]
              obtain ⟨d0, d1', f0, f1⟩ := cell_two (HQ.out wr (btrH' HB17.out HBJ.out)).2.1
              go_wp2
              obtain ⟨r1, r2⟩ := HEND.out wr (btrH' HB17.out HBJ.out) (0, []) none 0 (pl_nil _)
              exact bodyPost_ret (dc_res r2 rfl) rfl (by rw [HER.out]; exact r1)
    · have j1 : decide (EC = (0, [])) = false := by simpa using hE
      have HER : Hid (chk h = EC) := by show _ = _; rw [HCE.out]; exact orE_hit hE
      obtain ⟨q0, q1, _, _⟩ := cell_two HXB.out.1
      obtain ⟨d0, d1', f0, f1⟩ := cell_two (HQ.out wb HBW.out).2.1
      go_wp2
      obtain ⟨r1, r2⟩ := HEND.out wb HBW.out EC l3 k3 HXB.out.2
      exact bodyPost_ret (dc_res r2 rfl) rfl (by rw [HER.out]; exact r1)
  have HS6 : Hid (∀ wx, Below W0.heap.size W0 wx → (fun w' => w'.cell? ⟨z, 0, none⟩ = some (.slice no n nc) ∧ w'.cell? ⟨z, 1, none⟩ = some (.slice uo fu uc) ∧ w'.cell? ⟨z, 2, none⟩ = some (.slice ul a ulc) ∧ w'.cell? ⟨z, 3, none⟩ = some (.slice wo fd wc) ∧ w'.cell? ⟨z, 4, none⟩ = some (.slice dl b dlc) ∧ Hid (Below W0.heap.size W0 w')) wx) := fun wx hx => by
    obtain ⟨c0, c1, c2, c3, c4⟩ := (HQ.out wx hx).1
    exact ⟨c0, c1, c2, c3, c4, hx⟩
  clear c0 c1 c2 c3 c4
  refine wp_region_M (S := (fun w' => w'.cell? ⟨z, 0, none⟩ = some (.slice no n nc) ∧ w'.cell? ⟨z, 1, none⟩ = some (.slice uo fu uc) ∧ w'.cell? ⟨z, 2, none⟩ = some (.slice ul a ulc) ∧ w'.cell? ⟨z, 3, none⟩ = some (.slice wo fd wc) ∧ w'.cell? ⟨z, 4, none⟩ = some (.slice dl b dlc) ∧ Hid (Below W0.heap.size W0 w'))) (by kernel_rfl) (HS6.out _ (Below.refl _ _).drew) ?_
  refine wpAnyM_take (i := 0) (oi := { dst := Option.some 44, op := Op.fieldAddr 25 (Operand.tmp 1) 1, type := 0, pos := "ref.go:115", after := #[], guard := Option.none }) (v := ?va0) rfl (by kernel_rfl) (by kernel_rfl) (by kernel_rfl) (fun _ _ _ h => h) (YieldsM.of_if (Or.inl ⟨by rfl, ?ha0⟩)) ?ra0
  case ha0 => ((intro wz hSw; (try dsimp only at hSw); go_simp); try (with_reducible rfl))
  try simp only [Act.put, List.setIfInBounds_toArray, List.set_cons_zero, List.set_cons_succ]
  refine wpAnyM_take (i := 1) (oi := { dst := Option.some 45, op := Op.load 22 (Operand.tmp 44), type := 22, pos := "ref.go:115", after := #[{ on := 0, ground := Ground.data }], guard := Option.none }) (v := ?va1) rfl (by kernel_rfl) (by kernel_rfl) (by kernel_rfl) (fun _ _ _ h => h) (YieldsM.of_if (Or.inl ⟨by rfl, ?ha1⟩)) ?ra1
  case ha1 => ((intro wz hSw; (try dsimp only at hSw); go_simp); try (with_reducible rfl))
  try simp only [Act.put, List.setIfInBounds_toArray, List.set_cons_zero, List.set_cons_succ]
  refine wpAnyM_take (i := 2) (oi := { dst := Option.some 46, op := Op.move (Operand.tmp 3), type := 3, pos := "ref.go:115", after := #[], guard := Option.none }) (v := ?va2) rfl (by kernel_rfl) (by kernel_rfl) (by kernel_rfl) (fun _ _ _ h => h) (YieldsM.of_if (Or.inl ⟨by rfl, ?ha2⟩)) ?ra2
  case ha2 => ((intro wz hSw; (try dsimp only at hSw); go_simp); try (with_reducible rfl))
  try simp only [Act.put, List.setIfInBounds_toArray, List.set_cons_zero, List.set_cons_succ]
  refine wpAnyM_take (i := 3) (oi := { dst := Option.some 47, op := Op.fieldAddr 25 (Operand.tmp 1) 2, type := 0, pos := "ref.go:115", after := #[], guard := Option.none }) (v := ?va3) rfl (by kernel_rfl) (by kernel_rfl) (by kernel_rfl) (fun _ _ _ h => h) (YieldsM.of_if (Or.inl ⟨by rfl, ?ha3⟩)) ?ra3
  case ha3 => ((intro wz hSw; (try dsimp only at hSw); go_simp); try (with_reducible rfl))
  try simp only [Act.put, List.setIfInBounds_toArray, List.set_cons_zero, List.set_cons_succ]
  refine wpAnyM_take (i := 4) (oi := { dst := Option.some 48, op := Op.load 23 (Operand.tmp 47), type := 23, pos := "ref.go:115", after := #[{ on := 3, ground := Ground.data }], guard := Option.none }) (v := ?va4) rfl (by kernel_rfl) (by kernel_rfl) (by kernel_rfl) (fun _ _ _ h => h) (YieldsM.of_if (Or.inl ⟨by rfl, ?ha4⟩)) ?ra4
  case ha4 => ((intro wz hSw; (try dsimp only at hSw); go_simp); try (with_reducible rfl))
  try simp only [Act.put, List.setIfInBounds_toArray, List.set_cons_zero, List.set_cons_succ]
  refine wpAnyM_take (i := 5) (oi := { dst := Option.some 49, op := Op.call { callee := Callee.builtin Builtin.len, args := #[Operand.tmp 48], argTypes := #[23] }, type := 3, pos := "ref.go:115", after := #[{ on := 4, ground := Ground.data }], guard := Option.none }) (v := ?va5) rfl (by kernel_rfl) (by kernel_rfl) (by kernel_rfl) (fun _ _ _ h => h) (YieldsM.of_if (Or.inl ⟨by rfl, ?ha5⟩)) ?ra5
  case ha5 => ((intro wz hSw; (try dsimp only at hSw); go_simp); try (with_reducible rfl))
  try simp only [Act.put, List.setIfInBounds_toArray, List.set_cons_zero, List.set_cons_succ]
  refine wpAnyM_take (i := 7) (oi := { dst := Option.some 51, op := Op.fieldAddr 25 (Operand.tmp 1) 3, type := 0, pos := "ref.go:115", after := #[], guard := Option.none }) (v := ?va7) rfl (by kernel_rfl) (by kernel_rfl) (by kernel_rfl) (fun _ _ _ h => h) (YieldsM.of_if (Or.inl ⟨by rfl, ?ha7⟩)) ?ra7
  case ha7 => ((intro wz hSw; (try dsimp only at hSw); go_simp); try (with_reducible rfl))
  try simp only [Act.put, List.setIfInBounds_toArray, List.set_cons_zero, List.set_cons_succ]
  refine wpAnyM_take (i := 8) (oi := { dst := Option.some 52, op := Op.load 22 (Operand.tmp 51), type := 22, pos := "ref.go:115", after := #[{ on := 7, ground := Ground.data }], guard := Option.none }) (v := ?va8) rfl (by kernel_rfl) (by kernel_rfl) (by kernel_rfl) (fun _ _ _ h => h) (YieldsM.of_if (Or.inl ⟨by rfl, ?ha8⟩)) ?ra8
  case ha8 => ((intro wz hSw; (try dsimp only at hSw); go_simp); try (with_reducible rfl))
  try simp only [Act.put, List.setIfInBounds_toArray, List.set_cons_zero, List.set_cons_succ]
  refine wpAnyM_take (i := 9) (oi := { dst := Option.some 53, op := Op.move (Operand.tmp 3), type := 3, pos := "ref.go:115", after := #[], guard := Option.none }) (v := ?va9) rfl (by kernel_rfl) (by kernel_rfl) (by kernel_rfl) (fun _ _ _ h => h) (YieldsM.of_if (Or.inl ⟨by rfl, ?ha9⟩)) ?ra9
  case ha9 => ((intro wz hSw; (try dsimp only at hSw); go_simp); try (with_reducible rfl))
  try simp only [Act.put, List.setIfInBounds_toArray, List.set_cons_zero, List.set_cons_succ]
  refine wpAnyM_take (i := 10) (oi := { dst := Option.some 54, op := Op.fieldAddr 25 (Operand.tmp 1) 4, type := 0, pos := "ref.go:115", after := #[], guard := Option.none }) (v := ?va10) rfl (by kernel_rfl) (by kernel_rfl) (by kernel_rfl) (fun _ _ _ h => h) (YieldsM.of_if (Or.inl ⟨by rfl, ?ha10⟩)) ?ra10
  case ha10 => ((intro wz hSw; (try dsimp only at hSw); go_simp); try (with_reducible rfl))
  try simp only [Act.put, List.setIfInBounds_toArray, List.set_cons_zero, List.set_cons_succ]
  refine wpAnyM_take (i := 11) (oi := { dst := Option.some 55, op := Op.load 23 (Operand.tmp 54), type := 23, pos := "ref.go:115", after := #[{ on := 10, ground := Ground.data }], guard := Option.none }) (v := ?va11) rfl (by kernel_rfl) (by kernel_rfl) (by kernel_rfl) (fun _ _ _ h => h) (YieldsM.of_if (Or.inl ⟨by rfl, ?ha11⟩)) ?ra11
  case ha11 => ((intro wz hSw; (try dsimp only at hSw); go_simp); try (with_reducible rfl))
  try simp only [Act.put, List.setIfInBounds_toArray, List.set_cons_zero, List.set_cons_succ]
  refine wpAnyM_take (i := 12) (oi := { dst := Option.some 56, op := Op.call { callee := Callee.builtin Builtin.len, args := #[Operand.tmp 55], argTypes := #[23] }, type := 3, pos := "ref.go:115", after := #[{ on := 11, ground := Ground.data }], guard := Option.none }) (v := ?va12) rfl (by kernel_rfl) (by kernel_rfl) (by kernel_rfl) (fun _ _ _ h => h) (YieldsM.of_if (Or.inl ⟨by rfl, ?ha12⟩)) ?ra12
  case ha12 => ((intro wz hSw; (try dsimp only at hSw); go_simp); try (with_reducible rfl))
  try simp only [Act.put, List.setIfInBounds_toArray, List.set_cons_zero, List.set_cons_succ]
  have FA : Hid (∀ wx, Below W0.drew.heap.size W0.drew wx → (Below W0.heap.size W0 wx)) := fun wx hx => btrH' (Below.refl _ _).drew hx
  refine ready2M (i := 6) (j := 16) (oi := { dst := Option.some 50, op := Op.call { callee := Callee.value (Operand.func 59), args := #[Operand.tmp 45, Operand.tmp 46, Operand.tmp 49], argTypes := #[22, 3, 3] }, type := 46, pos := "ref.go:115", after := #[{ on := 1, ground := Ground.data }, { on := 2, ground := Ground.data }, { on := 5, ground := Ground.data }], guard := Option.none }) (oj := { dst := Option.some 4, op := Op.alloc 46, type := 0, pos := "ref.go:115", after := #[], guard := Option.none }) rfl rfl (by kernel_rfl) ?_ ?_
  · intro u1 hg1 hS1 K hK
    have fB1 := FA.out u1 hg1
    clear hS1
    go_simp
    refine (HC1.out u1 fB1).mono ?_
    rintro e y1 ⟨l1, k1, rfl, hp1, hy1⟩
    rw [HEA.out] at hp1 ⊢
    go_wp2_with fail
    have F1c : Hid (∀ wx, Below y1.heap.size y1 wx → (Below W0.heap.size W0 wx) ∧ (HasPlaces wx (.slice l1 EA.2.length k1) EA.2)) := fun wx hx => ⟨(btrH' (btrH' fB1 hy1) hx), (HasPlaces.keep hp1 hx)⟩
    refine hK.out _ _ (HS6.out _ (F1c.out _ (Below.refl _ _)).1) ?_
    clear hK K FA
    try simp only [Act.put, List.setIfInBounds_toArray, List.set_cons_zero, List.set_cons_succ]
    refine ready2M (i := 13) (j := 16) (oi := { dst := Option.some 57, op := Op.call { callee := Callee.value (Operand.func 59), args := #[Operand.tmp 52, Operand.tmp 53, Operand.tmp 56], argTypes := #[22, 3, 3] }, type := 46, pos := "ref.go:115", after := #[{ on := 8, ground := Ground.data }, { on := 9, ground := Ground.data }, { on := 12, ground := Ground.data }, { on := 6, ground := Ground.chain }], guard := Option.none }) (oj := { dst := Option.some 4, op := Op.alloc 46, type := 0, pos := "ref.go:115", after := #[], guard := Option.none }) rfl rfl (by kernel_rfl) ?_ ?_
    · intro u2 hg2 hS2 K hK
      obtain ⟨fB2, fP12⟩ := F1c.out u2 hg2
      clear hS2
      go_simp
      refine (HC2.out u2 fB2).mono ?_
      rintro e y2 ⟨l2, k2, rfl, hp2, hy2⟩
      rw [HEB.out] at hp2 ⊢
      go_wp2_with fail
      have F2c : Hid (∀ wx, Below y2.heap.size y2 wx → (Below W0.heap.size W0 wx) ∧ (HasPlaces wx (.slice l1 EA.2.length k1) EA.2) ∧ (HasPlaces wx (.slice l2 EB.2.length k2) EB.2)) := fun wx hx => ⟨(btrH' (btrH' fB2 hy2) hx), (HasPlaces.keep (HasPlaces.keep fP12 hy2) hx), (HasPlaces.keep hp2 hx)⟩
      refine hK.out _ _ (HS6.out _ (F2c.out _ (Below.refl _ _)).1) ?_
      clear hK K F1c
      try simp only [Act.put, List.setIfInBounds_toArray, List.set_cons_zero, List.set_cons_succ]
      refine ready2M (i := 14) (j := 16) (oi := { dst := Option.some 58, op := Op.buildSlice 102 2 #[(0, Operand.tmp 50), (1, Operand.tmp 57)], type := 102, pos := "ref.go:115", after := #[{ on := 6, ground := Ground.data }, { on := 13, ground := Ground.data }], guard := Option.none }) (oj := { dst := Option.some 4, op := Op.alloc 46, type := 0, pos := "ref.go:115", after := #[], guard := Option.none }) rfl rfl (by kernel_rfl) ?_ ?_
      · intro u3 hg3 hS3 K hK
        obtain ⟨fB3, fP13, fP23⟩ := F2c.out u3 hg3
        clear hS3
        have hbs := build_errs EA.1 EB.1 l1 l2 EA.2.length EB.2.length k1 k2
        go_simp
        have hal3 : Below u3.heap.size u3 (u3.alloc (.cells #[.int .i64 EA.1, .slice l1 EA.2.length k1, .int .i64 EB.1, .slice l2 EB.2.length k2] 46)) := (Below.refl _ _).alloc (Nat.le_refl _) _
        have hnw3 := heap_newW u3 (.cells #[.int .i64 EA.1, .slice l1 EA.2.length k1, .int .i64 EB.1, .slice l2 EB.2.length k2] 46)
        clear hbs
        obtain ⟨g, hgq3⟩ : ∃ g, u3.heap.size = g := ⟨_, rfl⟩
        rw [hgq3] at hnw3 ⊢
        generalize u3.alloc (.cells #[.int .i64 EA.1, .slice l1 EA.2.length k1, .int .i64 EB.1, .slice l2 EB.2.length k2] 46) = y3 at *
        have F3c : Hid (∀ wx, Below y3.heap.size y3 wx → (Below W0.heap.size W0 wx) ∧ (HasPlaces wx (.slice l1 EA.2.length k1) EA.2) ∧ (HasPlaces wx (.slice l2 EB.2.length k2) EB.2) ∧ (wx.heap[g]? = some (.cells #[.int .i64 EA.1, .slice l1 EA.2.length k1, .int .i64 EB.1, .slice l2 EB.2.length k2] 46))) := fun wx hx => ⟨(btrH' (btrH' fB3 hal3) hx), (HasPlaces.keep (HasPlaces.keep fP13 hal3) hx), (HasPlaces.keep (HasPlaces.keep fP23 hal3) hx), ((Below.block hx _ (some_lt hnw3)).trans hnw3)⟩
        refine hK.out _ _ (HS6.out _ (F3c.out _ (Below.refl _ _)).1) ?_
        clear hK K F2c
        try simp only [Act.put, List.setIfInBounds_toArray, List.set_cons_zero, List.set_cons_succ]
        refine ready2M (i := 15) (j := 16) (oi := { dst := Option.some 59, op := Op.call { callee := Callee.value (Operand.func 58), args := #[Operand.tmp 58], argTypes := #[102] }, type := 46, pos := "ref.go:115", after := #[{ on := 14, ground := Ground.data }, { on := 13, ground := Ground.chain }], guard := Option.none }) (oj := { dst := Option.some 4, op := Op.alloc 46, type := 0, pos := "ref.go:115", after := #[], guard := Option.none }) rfl rfl (by kernel_rfl) ?_ ?_
        · intro u4 hg4 hS4 K hK
          obtain ⟨fB4, fP14, fP24, fG4⟩ := F3c.out u4 hg4
          clear hS4
          go_simp
          refine (first_two (E1 := EA) (E2 := EB) fG4 fP14 fP24).mono ?_
          rintro e y4 ⟨l3, k3, rfl, hp4, hy4⟩
          rw [HEC.out] at hp4 ⊢
          go_wp2_with fail
          have F4c : Hid (∀ wx, Below y4.heap.size y4 wx → (Below W0.heap.size W0 wx) ∧ (HasPlaces wx (.slice l1 EA.2.length k1) EA.2) ∧ (HasPlaces wx (.slice l2 EB.2.length k2) EB.2) ∧ (wx.heap[g]? = some (.cells #[.int .i64 EA.1, .slice l1 EA.2.length k1, .int .i64 EB.1, .slice l2 EB.2.length k2] 46)) ∧ (HasPlaces wx (.slice l3 EC.2.length k3) EC.2)) := fun wx hx => ⟨(btrH' (btrH' fB4 hy4) hx), (HasPlaces.keep (HasPlaces.keep fP14 hy4) hx), (HasPlaces.keep (HasPlaces.keep fP24 hy4) hx), ((Below.block hx _ (some_lt ((Below.block hy4 _ (some_lt fG4)).trans fG4))).trans ((Below.block hy4 _ (some_lt fG4)).trans fG4)), (HasPlaces.keep hp4 hx)⟩
          refine hK.out _ _ (HS6.out _ (F4c.out _ (Below.refl _ _)).1) ?_
          clear hK K F3c
          try simp only [Act.put, List.setIfInBounds_toArray, List.set_cons_zero, List.set_cons_succ]
          refine readyM (i := 16) (o := { dst := Option.some 4, op := Op.alloc 46, type := 0, pos := "ref.go:115", after := #[], guard := Option.none }) rfl (by kernel_rfl) ?_
          intro u5 hg5 hS5 K hK
          obtain ⟨fB5a, fP15a, fP25a, fG5a, fR5a⟩ := F4c.out u5 hg5
          clear hS5
          go_simp
          have hal5 : Below u5.heap.size u5 (u5.alloc (.cells #[.int .i64 0, .slice none 0 0] 46)) := (Below.refl _ _).alloc (Nat.le_refl _) _
          have hnw5 := heap_newW u5 (.cells #[.int .i64 0, .slice none 0 0] 46)
          have hle5 : W0.heap.size ≤ u5.heap.size := Below.size fB5a
          obtain ⟨q, hgq5⟩ : ∃ q, u5.heap.size = q := ⟨_, rfl⟩
          rw [hgq5] at hnw5 hle5 ⊢
          generalize u5.alloc (.cells #[.int .i64 0, .slice none 0 0] 46) = y5 at *
          have hZ5 : y5.heap[q]? = some (.cells #[.int .i64 0, .slice none 0 0] 46) ∧ W0.heap.size ≤ q := ⟨hnw5, hle5⟩
          have F5a : Hid (∀ wx, Below y5.heap.size y5 wx → (Below W0.heap.size W0 wx) ∧ (HasPlaces wx (.slice l1 EA.2.length k1) EA.2) ∧ (HasPlaces wx (.slice l2 EB.2.length k2) EB.2) ∧ (wx.heap[g]? = some (.cells #[.int .i64 EA.1, .slice l1 EA.2.length k1, .int .i64 EB.1, .slice l2 EB.2.length k2] 46)) ∧ (HasPlaces wx (.slice l3 EC.2.length k3) EC.2) ∧ (wx.heap[q]? = some (.cells #[.int .i64 0, .slice none 0 0] 46) ∧ W0.heap.size ≤ q)) := fun wx hx => ⟨(btrH' (btrH' fB5a hal5) hx), (HasPlaces.keep (HasPlaces.keep fP15a hal5) hx), (HasPlaces.keep (HasPlaces.keep fP25a hal5) hx), ((Below.block hx _ (some_lt ((Below.block hal5 _ (some_lt fG5a)).trans fG5a))).trans ((Below.block hal5 _ (some_lt fG5a)).trans fG5a)), (HasPlaces.keep (HasPlaces.keep fR5a hal5) hx), ⟨(Below.block hx _ (some_lt (And.left hZ5))).trans (And.left hZ5), And.right hZ5⟩⟩
          refine hK.out _ _ (HS6.out _ (F5a.out _ (Below.refl _ _)).1) ?_
          clear hK K F4c
          try simp only [Act.put, List.setIfInBounds_toArray, List.set_cons_zero, List.set_cons_succ]
          refine readyM (i := 17) (o := { dst := Option.none, op := Op.store 46 (Operand.tmp 4) (Operand.tmp 59), type := 0, pos := "ref.go:115", after := #[{ on := 16, ground := Ground.data }, { on := 15, ground := Ground.data }, { on := 15, ground := Ground.chain }, { on := 0, ground := Ground.phase }, { on := 1, ground := Ground.phase }, { on := 2, ground := Ground.phase }, { on := 3, ground := Ground.phase }, { on := 4, ground := Ground.phase }, { on := 5, ground := Ground.phase }, { on := 6, ground := Ground.phase }, { on := 7, ground := Ground.phase }, { on := 8, ground := Ground.phase }, { on := 9, ground := Ground.phase }, { on := 10, ground := Ground.phase }, { on := 11, ground := Ground.phase }, { on := 12, ground := Ground.phase }, { on := 13, ground := Ground.phase }, { on := 14, ground := Ground.phase }, { on := 15, ground := Ground.phase }, { on := 16, ground := Ground.phase }], guard := Option.none }) rfl (by kernel_rfl) ?_
          intro u6 hg6 hS6 K hK
          obtain ⟨fB6, fP16, fP26, fG6, fR6, fZ6⟩ := F5a.out u6 hg6
          obtain ⟨d0, d1', f0, f1⟩ := cell_two (And.left fZ6)
          clear hS6
          go_simp
          have HT : Hid (((u6.setCell ⟨q, 0, none⟩ (.int .i64 EC.1)).setCell ⟨q, 1, none⟩ (.slice l3 EC.2.length k3)).heap[q]? = some (.cells #[.int .i64 EC.1, .slice l3 EC.2.length k3] 46) ∧ HasPlaces ((u6.setCell ⟨q, 0, none⟩ (.int .i64 EC.1)).setCell ⟨q, 1, none⟩ (.slice l3 EC.2.length k3)) (.slice l3 EC.2.length k3) EC.2 ∧ Below W0.heap.size W0 ((u6.setCell ⟨q, 0, none⟩ (.int .i64 EC.1)).setCell ⟨q, 1, none⟩ (.slice l3 EC.2.length k3))) := ⟨set_err (And.left fZ6) _ _, pl_sets (And.left fZ6) fR6 _ _, (Below.setCell (p := ⟨q, 0, none⟩) fB6 (And.right fZ6) _).setCell (p := ⟨q, 1, none⟩) (And.right fZ6) _⟩
          refine hK.out _ _ (HS6.out _ HT.out.2.2) ?_
          clear hK K d0 d1' f0 f1
          try simp only [Act.put, List.setIfInBounds_toArray, List.set_cons_zero, List.set_cons_succ]
          refine wpAnyM_done (by kernel_rfl) ?_ _
          intro u9 hg9 hS9
          exact KEY6 _ _ _ _ _ _ _ _ _ _ _ _ _ _ _ _ _ _ _ _ _ _ _ _ _ _ _ _ _ _ _ _ _ _ _ _ _ _ _ _ _ _ _ _ _ _ _ _ _ q l3 k3 u9 ⟨(Below.block hg9 _ (some_lt HT.out.1)).trans HT.out.1, HasPlaces.keep HT.out.2.1 hg9, btrH' HT.out.2.2 hg9⟩
        · intro u4 hg4 hS4 K hK
          obtain ⟨fB4a, fP14a, fP24a, fG4a⟩ := F3c.out u4 hg4
          clear hS4
          go_simp
          have hal4 : Below u4.heap.size u4 (u4.alloc (.cells #[.int .i64 0, .slice none 0 0] 46)) := (Below.refl _ _).alloc (Nat.le_refl _) _
          have hnw4 := heap_newW u4 (.cells #[.int .i64 0, .slice none 0 0] 46)
          have hle4 : W0.heap.size ≤ u4.heap.size := Below.size fB4a
          obtain ⟨q, hgq4⟩ : ∃ q, u4.heap.size = q := ⟨_, rfl⟩
          rw [hgq4] at hnw4 hle4 ⊢
          generalize u4.alloc (.cells #[.int .i64 0, .slice none 0 0] 46) = y4 at *
          have hZ4 : y4.heap[q]? = some (.cells #[.int .i64 0, .slice none 0 0] 46) ∧ W0.heap.size ≤ q := ⟨hnw4, hle4⟩
          have F4a : Hid (∀ wx, Below y4.heap.size y4 wx → (Below W0.heap.size W0 wx) ∧ (HasPlaces wx (.slice l1 EA.2.length k1) EA.2) ∧ (HasPlaces wx (.slice l2 EB.2.length k2) EB.2) ∧ (wx.heap[g]? = some (.cells #[.int .i64 EA.1, .slice l1 EA.2.length k1, .int .i64 EB.1, .slice l2 EB.2.length k2] 46)) ∧ (wx.heap[q]? = some (.cells #[.int .i64 0, .slice none 0 0] 46) ∧ W0.heap.size ≤ q)) := fun wx hx => ⟨(btrH' (btrH' fB4a hal4) hx), (HasPlaces.keep (HasPlaces.keep fP14a hal4) hx), (HasPlaces.keep (HasPlaces.keep fP24a hal4) hx), ((Below.block hx _ (some_lt ((Below.block hal4 _ (some_lt fG4a)).trans fG4a))).trans ((Below.block hal4 _ (some_lt fG4a)).trans fG4a)), ⟨(Below.block hx _ (some_lt (And.left hZ4))).trans (And.left hZ4), And.right hZ4⟩⟩
          refine hK.out _ _ (HS6.out _ (F4a.out _ (Below.refl _ _)).1) ?_
          clear hK K F3c
          try simp only [Act.put, List.setIfInBounds_toArray, List.set_cons_zero, List.set_cons_succ]
          refine readyM (i := 15) (o := { dst := Option.some 59, op := Op.call { callee := Callee.value (Operand.func 58), args := #[Operand.tmp 58], argTypes := #[102] }, type := 46, pos := "ref.go:115", after := #[{ on := 14, ground := Ground.data }, { on := 13, ground := Ground.chain }], guard := Option.none }) rfl (by kernel_rfl) ?_
          intro u7 hg7 hS7 K hK
          obtain ⟨fB7, fP17, fP27, fG7, fZ7⟩ := F4a.out u7 hg7
          clear hS7
          go_simp
          refine (first_two (E1 := EA) (E2 := EB) fG7 fP17 fP27).mono ?_
          rintro e y7 ⟨l3, k3, rfl, hp7, hy7⟩
          rw [HEC.out] at hp7 ⊢
          go_wp2_with fail
          have F7c : Hid (∀ wx, Below y7.heap.size y7 wx → (Below W0.heap.size W0 wx) ∧ (HasPlaces wx (.slice l1 EA.2.length k1) EA.2) ∧ (HasPlaces wx (.slice l2 EB.2.length k2) EB.2) ∧ (wx.heap[g]? = some (.cells #[.int .i64 EA.1, .slice l1 EA.2.length k1, .int .i64 EB.1, .slice l2 EB.2.length k2] 46)) ∧ (HasPlaces wx (.slice l3 EC.2.length k3) EC.2) ∧ (wx.heap[q]? = some (.cells #[.int .i64 0, .slice none 0 0] 46) ∧ W0.heap.size ≤ q)) := fun wx hx => ⟨(btrH' (btrH' fB7 hy7) hx), (HasPlaces.keep (HasPlaces.keep fP17 hy7) hx), (HasPlaces.keep (HasPlaces.keep fP27 hy7) hx), ((Below.block hx _ (some_lt ((Below.block hy7 _ (some_lt fG7)).trans fG7))).trans ((Below.block hy7 _ (some_lt fG7)).trans fG7)), (HasPlaces.keep hp7 hx), ⟨(Below.block hx _ (some_lt (And.left ⟨(Below.block hy7 _ (some_lt (And.left fZ7))).trans (And.left fZ7), And.right fZ7⟩))).trans (And.left ⟨(Below.block hy7 _ (some_lt (And.left fZ7))).trans (And.left fZ7), And.right fZ7⟩), And.right ⟨(Below.block hy7 _ (some_lt (And.left fZ7))).trans (And.left fZ7), And.right fZ7⟩⟩⟩
          refine hK.out _ _ (HS6.out _ (F7c.out _ (Below.refl _ _)).1) ?_
          clear hK K F4a
          try simp only [Act.put, List.setIfInBounds_toArray, List.set_cons_zero, List.set_cons_succ]
          refine readyM (i := 17) (o := { dst := Option.none, op := Op.store 46 (Operand.tmp 4) (Operand.tmp 59), type := 0, pos := "ref.go:115", after := #[{ on := 16, ground := Ground.data }, { on := 15, ground := Ground.data }, { on := 15, ground := Ground.chain }, { on := 0, ground := Ground.phase }, { on := 1, ground := Ground.phase }, { on := 2, ground := Ground.phase }, { on := 3, ground := Ground.phase }, { on := 4, ground := Ground.phase }, { on := 5, ground := Ground.phase }, { on := 6, ground := Ground.phase }, { on := 7, ground := Ground.phase }, { on := 8, ground := Ground.phase }, { on := 9, ground := Ground.phase }, { on := 10, ground := Ground.phase }, { on := 11, ground := Ground.phase }, { on := 12, ground := Ground.phase }, { on := 13, ground := Ground.phase }, { on := 14, ground := Ground.phase }, { on := 15, ground := Ground.phase }, { on := 16, ground := Ground.phase }], guard := Option.none }) rfl (by kernel_rfl) ?_
          intro u8 hg8 hS8 K hK
          obtain ⟨fB8, fP18, fP28, fG8, fR8, fZ8⟩ := F7c.out u8 hg8
          obtain ⟨d0, d1', f0, f1⟩ := cell_two (And.left fZ8)
          clear hS8
          go_simp
          have HT : Hid (((u8.setCell ⟨q, 0, none⟩ (.int .i64 EC.1)).setCell ⟨q, 1, none⟩ (.slice l3 EC.2.length k3)).heap[q]? = some (.cells #[.int .i64 EC.1, .slice l3 EC.2.length k3] 46) ∧ HasPlaces ((u8.setCell ⟨q, 0, none⟩ (.int .i64 EC.1)).setCell ⟨q, 1, none⟩ (.slice l3 EC.2.length k3)) (.slice l3 EC.2.length k3) EC.2 ∧ Below W0.heap.size W0 ((u8.setCell ⟨q, 0, none⟩ (.int .i64 EC.1)).setCell ⟨q, 1, none⟩ (.slice l3 EC.2.length k3))) := ⟨set_err (And.left fZ8) _ _, pl_sets (And.left fZ8) fR8 _ _, (Below.setCell (p := ⟨q, 0, none⟩) fB8 (And.right fZ8) _).setCell (p := ⟨q, 1, none⟩) (And.right fZ8) _⟩
          refine hK.out _ _ (HS6.out _ HT.out.2.2) ?_
          clear hK K d0 d1' f0 f1
          try simp only [Act.put, List.setIfInBounds_toArray, List.set_cons_zero, List.set_cons_succ]
          refine wpAnyM_done (by kernel_rfl) ?_ _
          intro u9 hg9 hS9
          exact KEY6 _ _ _ _ _ _ _ _ _ _ _ _ _ _ _ _ _ _ _ _ _ _ _ _ _ _ _ _ _ _ _ _ _ _ _ _ _ _ _ _ _ _ _ _ _ _ _ _ _ q l3 k3 u9 ⟨(Below.block hg9 _ (some_lt HT.out.1)).trans HT.out.1, HasPlaces.keep HT.out.2.1 hg9, btrH' HT.out.2.2 hg9⟩
      · intro u3 hg3 hS3 K hK
        obtain ⟨fB3a, fP13a, fP23a⟩ := F2c.out u3 hg3
        clear hS3
        go_simp
        have hal3 : Below u3.heap.size u3 (u3.alloc (.cells #[.int .i64 0, .slice none 0 0] 46)) := (Below.refl _ _).alloc (Nat.le_refl _) _
        have hnw3 := heap_newW u3 (.cells #[.int .i64 0, .slice none 0 0] 46)
        have hle3 : W0.heap.size ≤ u3.heap.size := Below.size fB3a
        obtain ⟨q, hgq3⟩ : ∃ q, u3.heap.size = q := ⟨_, rfl⟩
        rw [hgq3] at hnw3 hle3 ⊢
        generalize u3.alloc (.cells #[.int .i64 0, .slice none 0 0] 46) = y3 at *
        have hZ3 : y3.heap[q]? = some (.cells #[.int .i64 0, .slice none 0 0] 46) ∧ W0.heap.size ≤ q := ⟨hnw3, hle3⟩
        have F3a : Hid (∀ wx, Below y3.heap.size y3 wx → (Below W0.heap.size W0 wx) ∧ (HasPlaces wx (.slice l1 EA.2.length k1) EA.2) ∧ (HasPlaces wx (.slice l2 EB.2.length k2) EB.2) ∧ (wx.heap[q]? = some (.cells #[.int .i64 0, .slice none 0 0] 46) ∧ W0.heap.size ≤ q)) := fun wx hx => ⟨(btrH' (btrH' fB3a hal3) hx), (HasPlaces.keep (HasPlaces.keep fP13a hal3) hx), (HasPlaces.keep (HasPlaces.keep fP23a hal3) hx), ⟨(Below.block hx _ (some_lt (And.left hZ3))).trans (And.left hZ3), And.right hZ3⟩⟩
        refine hK.out _ _ (HS6.out _ (F3a.out _ (Below.refl _ _)).1) ?_
        clear hK K F2c
        try simp only [Act.put, List.setIfInBounds_toArray, List.set_cons_zero, List.set_cons_succ]
        refine readyM (i := 14) (o := { dst := Option.some 58, op := Op.buildSlice 102 2 #[(0, Operand.tmp 50), (1, Operand.tmp 57)], type := 102, pos := "ref.go:115", after := #[{ on := 6, ground := Ground.data }, { on := 13, ground := Ground.data }], guard := Option.none }) rfl (by kernel_rfl) ?_
        intro u9 hg9 hS9 K hK
        obtain ⟨fB9, fP19, fP29, fZ9⟩ := F3a.out u9 hg9
        clear hS9
        have hbs := build_errs EA.1 EB.1 l1 l2 EA.2.length EB.2.length k1 k2
        go_simp
        have hal9 : Below u9.heap.size u9 (u9.alloc (.cells #[.int .i64 EA.1, .slice l1 EA.2.length k1, .int .i64 EB.1, .slice l2 EB.2.length k2] 46)) := (Below.refl _ _).alloc (Nat.le_refl _) _
        have hnw9 := heap_newW u9 (.cells #[.int .i64 EA.1, .slice l1 EA.2.length k1, .int .i64 EB.1, .slice l2 EB.2.length k2] 46)
        clear hbs
        obtain ⟨g, hgq9⟩ : ∃ g, u9.heap.size = g := ⟨_, rfl⟩
        rw [hgq9] at hnw9 ⊢
        generalize u9.alloc (.cells #[.int .i64 EA.1, .slice l1 EA.2.length k1, .int .i64 EB.1, .slice l2 EB.2.length k2] 46) = y9 at *
        have F9c : Hid (∀ wx, Below y9.heap.size y9 wx → (Below W0.heap.size W0 wx) ∧ (HasPlaces wx (.slice l1 EA.2.length k1) EA.2) ∧ (HasPlaces wx (.slice l2 EB.2.length k2) EB.2) ∧ (wx.heap[g]? = some (.cells #[.int .i64 EA.1, .slice l1 EA.2.length k1, .int .i64 EB.1, .slice l2 EB.2.length k2] 46)) ∧ (wx.heap[q]? = some (.cells #[.int .i64 0, .slice none 0 0] 46) ∧ W0.heap.size ≤ q)) := fun wx hx => ⟨(btrH' (btrH' fB9 hal9) hx), (HasPlaces.keep (HasPlaces.keep fP19 hal9) hx), (HasPlaces.keep (HasPlaces.keep fP29 hal9) hx), ((Below.block hx _ (some_lt hnw9)).trans hnw9), ⟨(Below.block hx _ (some_lt (And.left ⟨(Below.block hal9 _ (some_lt (And.left fZ9))).trans (And.left fZ9), And.right fZ9⟩))).trans (And.left ⟨(Below.block hal9 _ (some_lt (And.left fZ9))).trans (And.left fZ9), And.right fZ9⟩), And.right ⟨(Below.block hal9 _ (some_lt (And.left fZ9))).trans (And.left fZ9), And.right fZ9⟩⟩⟩
        refine hK.out _ _ (HS6.out _ (F9c.out _ (Below.refl _ _)).1) ?_
        clear hK K F3a
        try simp only [Act.put, List.setIfInBounds_toArray, List.set_cons_zero, List.set_cons_succ]
        refine readyM (i := 15) (o := { dst := Option.some 59, op := Op.call { callee := Callee.value (Operand.func 58), args := #[Operand.tmp 58], argTypes := #[102] }, type := 46, pos := "ref.go:115", after := #[{ on := 14, ground := Ground.data }, { on := 13, ground := Ground.chain }], guard := Option.none }) rfl (by kernel_rfl) ?_
        intro u10 hg10 hS10 K hK
        obtain ⟨fB10, fP110, fP210, fG10, fZ10⟩ := F9c.out u10 hg10
        clear hS10
        go_simp
        refine (first_two (E1 := EA) (E2 := EB) fG10 fP110 fP210).mono ?_
        rintro e y10 ⟨l3, k3, rfl, hp10, hy10⟩
        rw [HEC.out] at hp10 ⊢
        go_wp2_with fail
        have F10c : Hid (∀ wx, Below y10.heap.size y10 wx → (Below W0.heap.size W0 wx) ∧ (HasPlaces wx (.slice l1 EA.2.length k1) EA.2) ∧ (HasPlaces wx (.slice l2 EB.2.length k2) EB.2) ∧ (wx.heap[g]? = some (.cells #[.int .i64 EA.1, .slice l1 EA.2.length k1, .int .i64 EB.1, .slice l2 EB.2.length k2] 46)) ∧ (HasPlaces wx (.slice l3 EC.2.length k3) EC.2) ∧ (wx.heap[q]? = some (.cells #[.int .i64 0, .slice none 0 0] 46) ∧ W0.heap.size ≤ q)) := fun wx hx => ⟨(btrH' (btrH' fB10 hy10) hx), (HasPlaces.keep (HasPlaces.keep fP110 hy10) hx), (HasPlaces.keep (HasPlaces.keep fP210 hy10) hx), ((Below.block hx _ (some_lt ((Below.block hy10 _ (some_lt fG10)).trans fG10))).trans ((Below.block hy10 _ (some_lt fG10)).trans fG10)), (HasPlaces.keep hp10 hx), ⟨(Below.block hx _ (some_lt (And.left ⟨(Below.block hy10 _ (some_lt (And.left fZ10))).trans (And.left fZ10), And.right fZ10⟩))).trans (And.left ⟨(Below.block hy10 _ (some_lt (And.left fZ10))).trans (And.left fZ10), And.right fZ10⟩), And.right ⟨(Below.block hy10 _ (some_lt (And.left fZ10))).trans (And.left fZ10), And.right fZ10⟩⟩⟩
        refine hK.out _ _ (HS6.out _ (F10c.out _ (Below.refl _ _)).1) ?_
        clear hK K F9c
        try simp only [Act.put, List.setIfInBounds_toArray, List.set_cons_zero, List.set_cons_succ]
        refine readyM (i := 17) (o := { dst := Option.none, op := Op.store 46 (Operand.tmp 4) (Operand.tmp 59), type := 0, pos := "ref.go:115", after := #[{ on := 16, ground := Ground.data }, { on := 15, ground := Ground.data }, { on := 15, ground := Ground.chain }, { on := 0, ground := Ground.phase }, { on := 1, ground := Ground.phase }, { on := 2, ground := Ground.phase }, { on := 3, ground := Ground.phase }, { on := 4, ground := Ground.phase }, { on := 5, ground := Ground.phase }, { on := 6, ground := Ground.phase }, { on := 7, ground := Ground.phase }, { on := 8, ground := Ground.phase }, { on := 9, ground := Ground.phase }, { on := 10, ground := Ground.phase }, { on := 11, ground := Ground.phase }, { on := 12, ground := Ground.phase }, { on := 13, ground := Ground.phase }, { on := 14, ground := Ground.phase }, { on := 15, ground := Ground.phase }, { on := 16, ground := Ground.phase }], guard := Option.none }) rfl (by kernel_rfl) ?_
        intro u11 hg11 hS11 K hK
        obtain ⟨fB11, fP111, fP211, fG11, fR11, fZ11⟩ := F10c.out u11 hg11
        obtain ⟨d0, d1', f0, f1⟩ := cell_two (And.left fZ11)
        clear hS11
        go_simp
        have HT : Hid (((u11.setCell ⟨q, 0, none⟩ (.int .i64 EC.1)).setCell ⟨q, 1, none⟩ (.slice l3 EC.2.length k3)).heap[q]? = some (.cells #[.int .i64 EC.1, .slice l3 EC.2.length k3] 46) ∧ HasPlaces ((u11.setCell ⟨q, 0, none⟩ (.int .i64 EC.1)).setCell ⟨q, 1, none⟩ (.slice l3 EC.2.length k3)) (.slice l3 EC.2.length k3) EC.2 ∧ Below W0.heap.size W0 ((u11.setCell ⟨q, 0, none⟩ (.int .i64 EC.1)).setCell ⟨q, 1, none⟩ (.slice l3 EC.2.length k3))) := ⟨set_err (And.left fZ11) _ _, pl_sets (And.left fZ11) fR11 _ _, (Below.setCell (p := ⟨q, 0, none⟩) fB11 (And.right fZ11) _).setCell (p := ⟨q, 1, none⟩) (And.right fZ11) _⟩
        refine hK.out _ _ (HS6.out _ HT.out.2.2) ?_
        clear hK K d0 d1' f0 f1
        try simp only [Act.put, List.setIfInBounds_toArray, List.set_cons_zero, List.set_cons_succ]
        refine wpAnyM_done (by kernel_rfl) ?_ _
        intro u9 hg9 hS9
        exact KEY6 _ _ _ _ _ _ _ _ _ _ _ _ _ _ _ _ _ _ _ _ _ _ _ _ _ _ _ _ _ _ _ _ _ _ _ _ _ _ _ _ _ _ _ _ _ _ _ _ _ q l3 k3 u9 ⟨(Below.block hg9 _ (some_lt HT.out.1)).trans HT.out.1, HasPlaces.keep HT.out.2.1 hg9, btrH' HT.out.2.2 hg9⟩
    · intro u2 hg2 hS2 K hK
      obtain ⟨fB2a, fP12a⟩ := F1c.out u2 hg2
      clear hS2
      go_simp
      have hal2 : Below u2.heap.size u2 (u2.alloc (.cells #[.int .i64 0, .slice none 0 0] 46)) := (Below.refl _ _).alloc (Nat.le_refl _) _
      have hnw2 := heap_newW u2 (.cells #[.int .i64 0, .slice none 0 0] 46)
      have hle2 : W0.heap.size ≤ u2.heap.size := Below.size fB2a
      obtain ⟨q, hgq2⟩ : ∃ q, u2.heap.size = q := ⟨_, rfl⟩
      rw [hgq2] at hnw2 hle2 ⊢
      generalize u2.alloc (.cells #[.int .i64 0, .slice none 0 0] 46) = y2 at *
      have hZ2 : y2.heap[q]? = some (.cells #[.int .i64 0, .slice none 0 0] 46) ∧ W0.heap.size ≤ q := ⟨hnw2, hle2⟩
      have F2a : Hid (∀ wx, Below y2.heap.size y2 wx → (Below W0.heap.size W0 wx) ∧ (HasPlaces wx (.slice l1 EA.2.length k1) EA.2) ∧ (wx.heap[q]? = some (.cells #[.int .i64 0, .slice none 0 0] 46) ∧ W0.heap.size ≤ q)) := fun wx hx => ⟨(btrH' (btrH' fB2a hal2) hx), (HasPlaces.keep (HasPlaces.keep fP12a hal2) hx), ⟨(Below.block hx _ (some_lt (And.left hZ2))).trans (And.left hZ2), And.right hZ2⟩⟩
      refine hK.out _ _ (HS6.out _ (F2a.out _ (Below.refl _ _)).1) ?_
      clear hK K F1c
      try simp only [Act.put, List.setIfInBounds_toArray, List.set_cons_zero, List.set_cons_succ]
      refine readyM (i := 13) (o := { dst := Option.some 57, op := Op.call { callee := Callee.value (Operand.func 59), args := #[Operand.tmp 52, Operand.tmp 53, Operand.tmp 56], argTypes := #[22, 3, 3] }, type := 46, pos := "ref.go:115", after := #[{ on := 8, ground := Ground.data }, { on := 9, ground := Ground.data }, { on := 12, ground := Ground.data }, { on := 6, ground := Ground.chain }], guard := Option.none }) rfl (by kernel_rfl) ?_
      intro u12 hg12 hS12 K hK
      obtain ⟨fB12, fP112, fZ12⟩ := F2a.out u12 hg12
      clear hS12
      go_simp
      refine (HC2.out u12 fB12).mono ?_
      rintro e y12 ⟨l2, k2, rfl, hp12, hy12⟩
      rw [HEB.out] at hp12 ⊢
      go_wp2_with fail
      have F12c : Hid (∀ wx, Below y12.heap.size y12 wx → (Below W0.heap.size W0 wx) ∧ (HasPlaces wx (.slice l1 EA.2.length k1) EA.2) ∧ (HasPlaces wx (.slice l2 EB.2.length k2) EB.2) ∧ (wx.heap[q]? = some (.cells #[.int .i64 0, .slice none 0 0] 46) ∧ W0.heap.size ≤ q)) := fun wx hx => ⟨(btrH' (btrH' fB12 hy12) hx), (HasPlaces.keep (HasPlaces.keep fP112 hy12) hx), (HasPlaces.keep hp12 hx), ⟨(Below.block hx _ (some_lt (And.left ⟨(Below.block hy12 _ (some_lt (And.left fZ12))).trans (And.left fZ12), And.right fZ12⟩))).trans (And.left ⟨(Below.block hy12 _ (some_lt (And.left fZ12))).trans (And.left fZ12), And.right fZ12⟩), And.right ⟨(Below.block hy12 _ (some_lt (And.left fZ12))).trans (And.left fZ12), And.right fZ12⟩⟩⟩
      refine hK.out _ _ (HS6.out _ (F12c.out _ (Below.refl _ _)).1) ?_
      clear hK K F2a
      try simp only [Act.put, List.setIfInBounds_toArray, List.set_cons_zero, List.set_cons_succ]
      refine readyM (i := 14) (o := { dst := Option.some 58, op := Op.buildSlice 102 2 #[(0, Operand.tmp 50), (1, Operand.tmp 57)], type := 102, pos := "ref.go:115", after := #[{ on := 6, ground := Ground.data }, { on := 13, ground := Ground.data }], guard := Option.none }) rfl (by kernel_rfl) ?_
      intro u13 hg13 hS13 K hK
      obtain ⟨fB13, fP113, fP213, fZ13⟩ := F12c.out u13 hg13
      clear hS13
      have hbs := build_errs EA.1 EB.1 l1 l2 EA.2.length EB.2.length k1 k2
      go_simp
      have hal13 : Below u13.heap.size u13 (u13.alloc (.cells #[.int .i64 EA.1, .slice l1 EA.2.length k1, .int .i64 EB.1, .slice l2 EB.2.length k2] 46)) := (Below.refl _ _).alloc (Nat.le_refl _) _
      have hnw13 := heap_newW u13 (.cells #[.int .i64 EA.1, .slice l1 EA.2.length k1, .int .i64 EB.1, .slice l2 EB.2.length k2] 46)
      clear hbs
      obtain ⟨g, hgq13⟩ : ∃ g, u13.heap.size = g := ⟨_, rfl⟩
      rw [hgq13] at hnw13 ⊢
      generalize u13.alloc (.cells #[.int .i64 EA.1, .slice l1 EA.2.length k1, .int .i64 EB.1, .slice l2 EB.2.length k2] 46) = y13 at *
      have F13c : Hid (∀ wx, Below y13.heap.size y13 wx → (Below W0.heap.size W0 wx) ∧ (HasPlaces wx (.slice l1 EA.2.length k1) EA.2) ∧ (HasPlaces wx (.slice l2 EB.2.length k2) EB.2) ∧ (wx.heap[g]? = some (.cells #[.int .i64 EA.1, .slice l1 EA.2.length k1, .int .i64 EB.1, .slice l2 EB.2.length k2] 46)) ∧ (wx.heap[q]? = some (.cells #[.int .i64 0, .slice none 0 0] 46) ∧ W0.heap.size ≤ q)) := fun wx hx => ⟨(btrH' (btrH' fB13 hal13) hx), (HasPlaces.keep (HasPlaces.keep fP113 hal13) hx), (HasPlaces.keep (HasPlaces.keep fP213 hal13) hx), ((Below.block hx _ (some_lt hnw13)).trans hnw13), ⟨(Below.block hx _ (some_lt (And.left ⟨(Below.block hal13 _ (some_lt (And.left fZ13))).trans (And.left fZ13), And.right fZ13⟩))).trans (And.left ⟨(Below.block hal13 _ (some_lt (And.left fZ13))).trans (And.left fZ13), And.right fZ13⟩), And.right ⟨(Below.block hal13 _ (some_lt (And.left fZ13))).trans (And.left fZ13), And.right fZ13⟩⟩⟩
      refine hK.out _ _ (HS6.out _ (F13c.out _ (Below.refl _ _)).1) ?_
      clear hK K F12c
      try simp only [Act.put, List.setIfInBounds_toArray, List.set_cons_zero, List.set_cons_succ]
      refine readyM (i := 15) (o := { dst := Option.some 59, op := Op.call { callee := Callee.value (Operand.func 58), args := #[Operand.tmp 58], argTypes := #[102] }, type := 46, pos := "ref.go:115", after := #[{ on := 14, ground := Ground.data }, { on := 13, ground := Ground.chain }], guard := Option.none }) rfl (by kernel_rfl) ?_
      intro u14 hg14 hS14 K hK
      obtain ⟨fB14, fP114, fP214, fG14, fZ14⟩ := F13c.out u14 hg14
      clear hS14
      go_simp
      refine (first_two (E1 := EA) (E2 := EB) fG14 fP114 fP214).mono ?_
      rintro e y14 ⟨l3, k3, rfl, hp14, hy14⟩
      rw [HEC.out] at hp14 ⊢
      go_wp2_with fail
      have F14c : Hid (∀ wx, Below y14.heap.size y14 wx → (Below W0.heap.size W0 wx) ∧ (HasPlaces wx (.slice l1 EA.2.length k1) EA.2) ∧ (HasPlaces wx (.slice l2 EB.2.length k2) EB.2) ∧ (wx.heap[g]? = some (.cells #[.int .i64 EA.1, .slice l1 EA.2.length k1, .int .i64 EB.1, .slice l2 EB.2.length k2] 46)) ∧ (HasPlaces wx (.slice l3 EC.2.length k3) EC.2) ∧ (wx.heap[q]? = some (.cells #[.int .i64 0, .slice none 0 0] 46) ∧ W0.heap.size ≤ q)) := fun wx hx => ⟨(btrH' (btrH' fB14 hy14) hx), (HasPlaces.keep (HasPlaces.keep fP114 hy14) hx), (HasPlaces.keep (HasPlaces.keep fP214 hy14) hx), ((Below.block hx _ (some_lt ((Below.block hy14 _ (some_lt fG14)).trans fG14))).trans ((Below.block hy14 _ (some_lt fG14)).trans fG14)), (HasPlaces.keep hp14 hx), ⟨(Below.block hx _ (some_lt (And.left ⟨(Below.block hy14 _ (some_lt (And.left fZ14))).trans (And.left fZ14), And.right fZ14⟩))).trans (And.left ⟨(Below.block hy14 _ (some_lt (And.left fZ14))).trans (And.left fZ14), And.right fZ14⟩), And.right ⟨(Below.block hy14 _ (some_lt (And.left fZ14))).trans (And.left fZ14), And.right fZ14⟩⟩⟩
      refine hK.out _ _ (HS6.out _ (F14c.out _ (Below.refl _ _)).1) ?_
      clear hK K F13c
      try simp only [Act.put, List.setIfInBounds_toArray, List.set_cons_zero, List.set_cons_succ]
      refine readyM (i := 17) (o := { dst := Option.none, op := Op.store 46 (Operand.tmp 4) (Operand.tmp 59), type := 0, pos := "ref.go:115", after := #[{ on := 16, ground := Ground.data }, { on := 15, ground := Ground.data }, { on := 15, ground := Ground.chain }, { on := 0, ground := Ground.phase }, { on := 1, ground := Ground.phase }, { on := 2, ground := Ground.phase }, { on := 3, ground := Ground.phase }, { on := 4, ground := Ground.phase }, { on := 5, ground := Ground.phase }, { on := 6, ground := Ground.phase }, { on := 7, ground := Ground.phase }, { on := 8, ground := Ground.phase }, { on := 9, ground := Ground.phase }, { on := 10, ground := Ground.phase }, { on := 11, ground := Ground.phase }, { on := 12, ground := Ground.phase }, { on := 13, ground := Ground.phase }, { on := 14, ground := Ground.phase }, { on := 15, ground := Ground.phase }, { on := 16, ground := Ground.phase }], guard := Option.none }) rfl (by kernel_rfl) ?_
      intro u15 hg15 hS15 K hK
      obtain ⟨fB15, fP115, fP215, fG15, fR15, fZ15⟩ := F14c.out u15 hg15
      obtain ⟨d0, d1', f0, f1⟩ := cell_two (And.left fZ15)
      clear hS15
      go_simp
      have HT : Hid (((u15.setCell ⟨q, 0, none⟩ (.int .i64 EC.1)).setCell ⟨q, 1, none⟩ (.slice l3 EC.2.length k3)).heap[q]? = some (.cells #[.int .i64 EC.1, .slice l3 EC.2.length k3] 46) ∧ HasPlaces ((u15.setCell ⟨q, 0, none⟩ (.int .i64 EC.1)).setCell ⟨q, 1, none⟩ (.slice l3 EC.2.length k3)) (.slice l3 EC.2.length k3) EC.2 ∧ Below W0.heap.size W0 ((u15.setCell ⟨q, 0, none⟩ (.int .i64 EC.1)).setCell ⟨q, 1, none⟩ (.slice l3 EC.2.length k3))) := ⟨set_err (And.left fZ15) _ _, pl_sets (And.left fZ15) fR15 _ _, (Below.setCell (p := ⟨q, 0, none⟩) fB15 (And.right fZ15) _).setCell (p := ⟨q, 1, none⟩) (And.right fZ15) _⟩
      refine hK.out _ _ (HS6.out _ HT.out.2.2) ?_
      clear hK K d0 d1' f0 f1
      try simp only [Act.put, List.setIfInBounds_toArray, List.set_cons_zero, List.set_cons_succ]
      refine wpAnyM_done (by kernel_rfl) ?_ _
      intro u9 hg9 hS9
      exact KEY6 _ _ _ _ _ _ _ _ _ _ _ _ _ _ _ _ _ _ _ _ _ _ _ _ _ _ _ _ _ _ _ _ _ _ _ _ _ _ _ _ _ _ _ _ _ _ _ _ _ q l3 k3 u9 ⟨(Below.block hg9 _ (some_lt HT.out.1)).trans HT.out.1, HasPlaces.keep HT.out.2.1 hg9, btrH' HT.out.2.2 hg9⟩
  · intro u1 hg1 hS1 K hK
    have fB1a := FA.out u1 hg1
    clear hS1
    go_simp
    have hal1 : Below u1.heap.size u1 (u1.alloc (.cells #[.int .i64 0, .slice none 0 0] 46)) := (Below.refl _ _).alloc (Nat.le_refl _) _
    have hnw1 := heap_newW u1 (.cells #[.int .i64 0, .slice none 0 0] 46)
    have hle1 : W0.heap.size ≤ u1.heap.size := Below.size fB1a
    obtain ⟨q, hgq1⟩ : ∃ q, u1.heap.size = q := ⟨_, rfl⟩
    rw [hgq1] at hnw1 hle1 ⊢
    generalize u1.alloc (.cells #[.int .i64 0, .slice none 0 0] 46) = y1 at *
    have hZ1 : y1.heap[q]? = some (.cells #[.int .i64 0, .slice none 0 0] 46) ∧ W0.heap.size ≤ q := ⟨hnw1, hle1⟩
    have F1a : Hid (∀ wx, Below y1.heap.size y1 wx → (Below W0.heap.size W0 wx) ∧ (wx.heap[q]? = some (.cells #[.int .i64 0, .slice none 0 0] 46) ∧ W0.heap.size ≤ q)) := fun wx hx => ⟨(btrH' (btrH' fB1a hal1) hx), ⟨(Below.block hx _ (some_lt (And.left hZ1))).trans (And.left hZ1), And.right hZ1⟩⟩
    refine hK.out _ _ (HS6.out _ (F1a.out _ (Below.refl _ _)).1) ?_
    clear hK K FA
    try simp only [Act.put, List.setIfInBounds_toArray, List.set_cons_zero, List.set_cons_succ]
    refine readyM (i := 6) (o := { dst := Option.some 50, op := Op.call { callee := Callee.value (Operand.func 59), args := #[Operand.tmp 45, Operand.tmp 46, Operand.tmp 49], argTypes := #[22, 3, 3] }, type := 46, pos := "ref.go:115", after := #[{ on := 1, ground := Ground.data }, { on := 2, ground := Ground.data }, { on := 5, ground := Ground.data }], guard := Option.none }) rfl (by kernel_rfl) ?_
    intro u16 hg16 hS16 K hK
    obtain ⟨fB16, fZ16⟩ := F1a.out u16 hg16
    clear hS16
    go_simp
    refine (HC1.out u16 fB16).mono ?_
    rintro e y16 ⟨l1, k1, rfl, hp16, hy16⟩
    rw [HEA.out] at hp16 ⊢
    go_wp2_with fail
    have F16c : Hid (∀ wx, Below y16.heap.size y16 wx → (Below W0.heap.size W0 wx) ∧ (HasPlaces wx (.slice l1 EA.2.length k1) EA.2) ∧ (wx.heap[q]? = some (.cells #[.int .i64 0, .slice none 0 0] 46) ∧ W0.heap.size ≤ q)) := fun wx hx => ⟨(btrH' (btrH' fB16 hy16) hx), (HasPlaces.keep hp16 hx), ⟨(Below.block hx _ (some_lt (And.left ⟨(Below.block hy16 _ (some_lt (And.left fZ16))).trans (And.left fZ16), And.right fZ16⟩))).trans (And.left ⟨(Below.block hy16 _ (some_lt (And.left fZ16))).trans (And.left fZ16), And.right fZ16⟩), And.right ⟨(Below.block hy16 _ (some_lt (And.left fZ16))).trans (And.left fZ16), And.right fZ16⟩⟩⟩
    refine hK.out _ _ (HS6.out _ (F16c.out _ (Below.refl _ _)).1) ?_
    clear hK K F1a
    try simp only [Act.put, List.setIfInBounds_toArray, List.set_cons_zero, List.set_cons_succ]
    refine readyM (i := 13) (o := { dst := Option.some 57, op := Op.call { callee := Callee.value (Operand.func 59), args := #[Operand.tmp 52, Operand.tmp 53, Operand.tmp 56], argTypes := #[22, 3, 3] }, type := 46, pos := "ref.go:115", after := #[{ on := 8, ground := Ground.data }, { on := 9, ground := Ground.data }, { on := 12, ground := Ground.data }, { on := 6, ground := Ground.chain }], guard := Option.none }) rfl (by kernel_rfl) ?_
    intro u17 hg17 hS17 K hK
    obtain ⟨fB17, fP117, fZ17⟩ := F16c.out u17 hg17
    clear hS17
    go_simp
    refine (HC2.out u17 fB17).mono ?_
    rintro e y17 ⟨l2, k2, rfl, hp17, hy17⟩
    rw [HEB.out] at hp17 ⊢
    go_wp2_with fail
    have F17c : Hid (∀ wx, Below y17.heap.size y17 wx → (Below W0.heap.size W0 wx) ∧ (HasPlaces wx (.slice l1 EA.2.length k1) EA.2) ∧ (HasPlaces wx (.slice l2 EB.2.length k2) EB.2) ∧ (wx.heap[q]? = some (.cells #[.int .i64 0, .slice none 0 0] 46) ∧ W0.heap.size ≤ q)) := fun wx hx => ⟨(btrH' (btrH' fB17 hy17) hx), (HasPlaces.keep (HasPlaces.keep fP117 hy17) hx), (HasPlaces.keep hp17 hx), ⟨(Below.block hx _ (some_lt (And.left ⟨(Below.block hy17 _ (some_lt (And.left fZ17))).trans (And.left fZ17), And.right fZ17⟩))).trans (And.left ⟨(Below.block hy17 _ (some_lt (And.left fZ17))).trans (And.left fZ17), And.right fZ17⟩), And.right ⟨(Below.block hy17 _ (some_lt (And.left fZ17))).trans (And.left fZ17), And.right fZ17⟩⟩⟩
    refine hK.out _ _ (HS6.out _ (F17c.out _ (Below.refl _ _)).1) ?_
    clear hK K F16c
    try simp only [Act.put, List.setIfInBounds_toArray, List.set_cons_zero, List.set_cons_succ]
    refine readyM (i := 14) (o := { dst := Option.some 58, op := Op.buildSlice 102 2 #[(0, Operand.tmp 50), (1, Operand.tmp 57)], type := 102, pos := "ref.go:115", after := #[{ on := 6, ground := Ground.data }, { on := 13, ground := Ground.data }], guard := Option.none }) rfl (by kernel_rfl) ?_
    intro u18 hg18 hS18 K hK
    obtain ⟨fB18, fP118, fP218, fZ18⟩ := F17c.out u18 hg18
    clear hS18
    have hbs := build_errs EA.1 EB.1 l1 l2 EA.2.length EB.2.length k1 k2
    go_simp
    have hal18 : Below u18.heap.size u18 (u18.alloc (.cells #[.int .i64 EA.1, .slice l1 EA.2.length k1, .int .i64 EB.1, .slice l2 EB.2.length k2] 46)) := (Below.refl _ _).alloc (Nat.le_refl _) _
    have hnw18 := heap_newW u18 (.cells #[.int .i64 EA.1, .slice l1 EA.2.length k1, .int .i64 EB.1, .slice l2 EB.2.length k2] 46)
    clear hbs
    obtain ⟨g, hgq18⟩ : ∃ g, u18.heap.size = g := ⟨_, rfl⟩
    rw [hgq18] at hnw18 ⊢
    generalize u18.alloc (.cells #[.int .i64 EA.1, .slice l1 EA.2.length k1, .int .i64 EB.1, .slice l2 EB.2.length k2] 46) = y18 at *
    have F18c : Hid (∀ wx, Below y18.heap.size y18 wx → (Below W0.heap.size W0 wx) ∧ (HasPlaces wx (.slice l1 EA.2.length k1) EA.2) ∧ (HasPlaces wx (.slice l2 EB.2.length k2) EB.2) ∧ (wx.heap[g]? = some (.cells #[.int .i64 EA.1, .slice l1 EA.2.length k1, .int .i64 EB.1, .slice l2 EB.2.length k2] 46)) ∧ (wx.heap[q]? = some (.cells #[.int .i64 0, .slice none 0 0] 46) ∧ W0.heap.size ≤ q)) := fun wx hx => ⟨(btrH' (btrH' fB18 hal18) hx), (HasPlaces.keep (HasPlaces.keep fP118 hal18) hx), (HasPlaces.keep (HasPlaces.keep fP218 hal18) hx), ((Below.block hx _ (some_lt hnw18)).trans hnw18), ⟨(Below.block hx _ (some_lt (And.left ⟨(Below.block hal18 _ (some_lt (And.left fZ18))).trans (And.left fZ18), And.right fZ18⟩))).trans (And.left ⟨(Below.block hal18 _ (some_lt (And.left fZ18))).trans (And.left fZ18), And.right fZ18⟩), And.right ⟨(Below.block hal18 _ (some_lt (And.left fZ18))).trans (And.left fZ18), And.right fZ18⟩⟩⟩
    refine hK.out _ _ (HS6.out _ (F18c.out _ (Below.refl _ _)).1) ?_
    clear hK K F17c
    try simp only [Act.put, List.setIfInBounds_toArray, List.set_cons_zero, List.set_cons_succ]
    refine readyM (i := 15) (o := { dst := Option.some 59, op := Op.call { callee := Callee.value (Operand.func 58), args := #[Operand.tmp 58], argTypes := #[102] }, type := 46, pos := "ref.go:115", after := #[{ on := 14, ground := Ground.data }, { on := 13, ground := Ground.chain }], guard := Option.none }) rfl (by kernel_rfl) ?_
    intro u19 hg19 hS19 K hK
    obtain ⟨fB19, fP119, fP219, fG19, fZ19⟩ := F18c.out u19 hg19
    clear hS19
    go_simp
    refine (first_two (E1 := EA) (E2 := EB) fG19 fP119 fP219).mono ?_
    rintro e y19 ⟨l3, k3, rfl, hp19, hy19⟩
    rw [HEC.out] at hp19 ⊢
    go_wp2_with fail
    have F19c : Hid (∀ wx, Below y19.heap.size y19 wx → (Below W0.heap.size W0 wx) ∧ (HasPlaces wx (.slice l1 EA.2.length k1) EA.2) ∧ (HasPlaces wx (.slice l2 EB.2.length k2) EB.2) ∧ (wx.heap[g]? = some (.cells #[.int .i64 EA.1, .slice l1 EA.2.length k1, .int .i64 EB.1, .slice l2 EB.2.length k2] 46)) ∧ (HasPlaces wx (.slice l3 EC.2.length k3) EC.2) ∧ (wx.heap[q]? = some (.cells #[.int .i64 0, .slice none 0 0] 46) ∧ W0.heap.size ≤ q)) := fun wx hx => ⟨(btrH' (btrH' fB19 hy19) hx), (HasPlaces.keep (HasPlaces.keep fP119 hy19) hx), (HasPlaces.keep (HasPlaces.keep fP219 hy19) hx), ((Below.block hx _ (some_lt ((Below.block hy19 _ (some_lt fG19)).trans fG19))).trans ((Below.block hy19 _ (some_lt fG19)).trans fG19)), (HasPlaces.keep hp19 hx), ⟨(Below.block hx _ (some_lt (And.left ⟨(Below.block hy19 _ (some_lt (And.left fZ19))).trans (And.left fZ19), And.right fZ19⟩))).trans (And.left ⟨(Below.block hy19 _ (some_lt (And.left fZ19))).trans (And.left fZ19), And.right fZ19⟩), And.right ⟨(Below.block hy19 _ (some_lt (And.left fZ19))).trans (And.left fZ19), And.right fZ19⟩⟩⟩
    refine hK.out _ _ (HS6.out _ (F19c.out _ (Below.refl _ _)).1) ?_
    clear hK K F18c
    try simp only [Act.put, List.setIfInBounds_toArray, List.set_cons_zero, List.set_cons_succ]
    refine readyM (i := 17) (o := { dst := Option.none, op := Op.store 46 (Operand.tmp 4) (Operand.tmp 59), type := 0, pos := "ref.go:115", after := #[{ on := 16, ground := Ground.data }, { on := 15, ground := Ground.data }, { on := 15, ground := Ground.chain }, { on := 0, ground := Ground.phase }, { on := 1, ground := Ground.phase }, { on := 2, ground := Ground.phase }, { on := 3, ground := Ground.phase }, { on := 4, ground := Ground.phase }, { on := 5, ground := Ground.phase }, { on := 6, ground := Ground.phase }, { on := 7, ground := Ground.phase }, { on := 8, ground := Ground.phase }, { on := 9, ground := Ground.phase }, { on := 10, ground := Ground.phase }, { on := 11, ground := Ground.phase }, { on := 12, ground := Ground.phase }, { on := 13, ground := Ground.phase }, { on := 14, ground := Ground.phase }, { on := 15, ground := Ground.phase }, { on := 16, ground := Ground.phase }], guard := Option.none }) rfl (by kernel_rfl) ?_
    intro u20 hg20 hS20 K hK
    obtain ⟨fB20, fP120, fP220, fG20, fR20, fZ20⟩ := F19c.out u20 hg20
    obtain ⟨d0, d1', f0, f1⟩ := cell_two (And.left fZ20)
    clear hS20
    go_simp
    have HT : Hid (((u20.setCell ⟨q, 0, none⟩ (.int .i64 EC.1)).setCell ⟨q, 1, none⟩ (.slice l3 EC.2.length k3)).heap[q]? = some (.cells #[.int .i64 EC.1, .slice l3 EC.2.length k3] 46) ∧ HasPlaces ((u20.setCell ⟨q, 0, none⟩ (.int .i64 EC.1)).setCell ⟨q, 1, none⟩ (.slice l3 EC.2.length k3)) (.slice l3 EC.2.length k3) EC.2 ∧ Below W0.heap.size W0 ((u20.setCell ⟨q, 0, none⟩ (.int .i64 EC.1)).setCell ⟨q, 1, none⟩ (.slice l3 EC.2.length k3))) := ⟨set_err (And.left fZ20) _ _, pl_sets (And.left fZ20) fR20 _ _, (Below.setCell (p := ⟨q, 0, none⟩) fB20 (And.right fZ20) _).setCell (p := ⟨q, 1, none⟩) (And.right fZ20) _⟩
    refine hK.out _ _ (HS6.out _ HT.out.2.2) ?_
    clear hK K d0 d1' f0 f1
    try simp only [Act.put, List.setIfInBounds_toArray, List.set_cons_zero, List.set_cons_succ]
    refine wpAnyM_done (by kernel_rfl) ?_ _
    intro u9 hg9 hS9
    exact KEY6 _ _ _ _ _ _ _ _ _ _ _ _ _ _ _ _ _ _ _ _ _ _ _ _ _ _ _ _ _ _ _ _ _ _ _ _ _ _ _ _ _ _ _ _ _ _ _ _ _ q l3 k3 u9 ⟨(Below.block hg9 _ (some_lt HT.out.1)).trans HT.out.1, HasPlaces.keep HT.out.2.1 hg9, btrH' HT.out.2.2 hg9⟩
theorem docCheck10_calls (v : HV) (h : Hr) (w : World) (hH : HasH w v h) (hb1 : h.up.length ≤ 1152921504606846976) (hb2 : h.dn.length ≤ 1152921504606846976) (hb3 : h.node.length ≤ 1152921504606846976) :
    Calls Tryz.prog 31 #[hvl v h] w fun e w' => RA w (chk h) e w' :=
  docCheck10_aux v.no v.uo v.ul v.wo v.dl v.nc v.uc v.ulc v.wc v.dlc h w hH hb1 hb2 hb3
end Go.Proofs.YtamedcnjanichabGreatDoor.Hi

namespace Go.Proofs.YtamedcnjanichabGreatDoor
open Go.RowKit Go.Extern Cr

attribute [local go_sem] Oper.semAt_some

theorem btrI {a b c : World} (h : Below a.heap.size a b) (k : Below b.heap.size b c) : Below a.heap.size a c := h.trans (k.mono h.size)
theorem told_nil {w : World} {u : Value} (h : IsTold w (0, []) u) : u = .nilIface := by
  rcases h with ⟨_, h⟩ | ⟨h, _⟩
  · exact h
  · exact absurd rfl h
theorem told_some {w : World} {E : Int × List (Int × Int)} {u : Value} (h : IsTold w E u) (hE : E ≠ (0, [])) : ∃ T x, u = .iface T x := by
  rcases h with ⟨e, _⟩ | ⟨_, h2⟩
  · exact absurd e hE
  · obtain ⟨c, ps⟩ := E
    cases ps with
    | nil => exact ⟨_, _, h2⟩
    | cons p r =>
      obtain ⟨b, u', e, _⟩ := h2
      exact ⟨_, _, e⟩
theorem len_le {h : Hi.Hr} (hs : SmallH h) : (imW h).length ≤ 11000000 := by
  rw [imW_len]
  have := hs.n
  have := hs.u
  have := hs.d
  have := hs.uf
  have := hs.df
  omega

set_option maxRecDepth 100000 in
set_option maxHeartbeats 2000000 in
theorem encode_bad (v : Hi.HV) (h : Hi.Hr) (w : World) (hH : Hi.HasH w v h) (hb1 : h.up.length ≤ 1152921504606846976) (hb2 : h.dn.length ≤ 1152921504606846976) (hb3 : h.node.length ≤ 1152921504606846976) (hc : Hi.chk h ≠ (0, [])) :
    Calls Tryz.prog 8 #[Hi.hvl v h] w fun e w' => ∃ T x, e = .returned (.tuple #[.slice none 0 0, .iface T x]) ∧ IsTold w' (Hi.chk h) (.iface T x) ∧ Below w.heap.size w w' := by
  obtain ⟨no, uo, ul, wo, dl, nc, uc, ulc, wc, dlc⟩ := v
  obtain ⟨nd, uF, up, dF, dn⟩ := h
  obtain ⟨W0, hW0⟩ : ∃ W0, w.alloc (.cells #[.slice no nd.length nc, .slice uo uF.length uc, .slice ul up.length ulc, .slice wo dF.length wc, .slice dl dn.length dlc] 25) = W0 := ⟨_, rfl⟩
  have HW0 : Hid (w.alloc (.cells #[.slice no nd.length nc, .slice uo uF.length uc, .slice ul up.length ulc, .slice wo dF.length wc, .slice dl dn.length dlc] 25) = W0) := hW0
  have hB0 : Below w.heap.size w W0 := by rw [← hW0]; exact (Below.refl _ _).alloc (Nat.le_refl _) _
  have hbx : W0.heap[w.heap.size]? = some (.cells #[.slice no nd.length nc, .slice uo uF.length uc, .slice ul up.length ulc, .slice wo dF.length wc, .slice dl dn.length dlc] 25) := by rw [← hW0]; exact heap_new _ _
  have HX : Hid (∀ wx, Below W0.heap.size W0 wx → (wx.cell? ⟨w.heap.size, 0, none⟩ = some (.slice no nd.length nc) ∧ wx.cell? ⟨w.heap.size, 1, none⟩ = some (.slice uo uF.length uc) ∧ wx.cell? ⟨w.heap.size, 2, none⟩ = some (.slice ul up.length ulc) ∧ wx.cell? ⟨w.heap.size, 3, none⟩ = some (.slice wo dF.length wc) ∧ wx.cell? ⟨w.heap.size, 4, none⟩ = some (.slice dl dn.length dlc)) ∧ w.heap.size < wx.heap.size ∧ Below w.heap.size w wx ∧ Hi.HasH wx ⟨no, uo, ul, wo, dl, nc, uc, ulc, wc, dlc⟩ ⟨nd, uF, up, dF, dn⟩) := fun wx hb => by
    have q := (hb.block _ (w_lt_get hbx)).trans hbx
    have hw := hB0.trans (hb.mono hB0.size)
    exact ⟨cells5 q, w_lt_get q, hw, hH.keep hw⟩
  obtain ⟨⟨c0, c1, c2, c3, c4⟩, l0, _⟩ := HX.out W0 (Below.refl _ _)
  have HCK : Hid (Calls Tryz.prog 19 #[.agg #[.slice no nd.length nc, .slice uo uF.length uc, .slice ul up.length ulc, .slice wo dF.length wc, .slice dl dn.length dlc]] W0 fun e w' => ∃ u, e = .returned u ∧ IsTold w' (Hi.chk ⟨nd, uF, up, dF, dn⟩) u ∧ Below W0.heap.size W0 w') := Hi.check_calls ⟨no, uo, ul, wo, dl, nc, uc, ulc, wc, dlc⟩ ⟨nd, uF, up, dF, dn⟩ W0 (hH.keep hB0) hb1 hb2 hb3
  have HC : Hid (Hi.chk ⟨nd, uF, up, dF, dn⟩ ≠ (0, [])) := hc
  clear hW0 hB0 hbx hH hc
  unfold Hi.hvl
  simp only
  go_enter Tryz.func8, Tryz.ntmps8
  go_upto_region 1 with fail
  rw [HW0.out]
  go_wp2_with fail
  refine HCK.out.mono ?_
  rintro e w1 ⟨u, rfl, hu, hb⟩
  obtain ⟨T, x, rfl⟩ := told_some hu HC.out
  have Y1 : Hid (IsTold w1 (Hi.chk ⟨nd, uF, up, dF, dn⟩) (.iface T x) ∧ Below w.heap.size w w1) := ⟨hu, (HX.out w1 hb).2.2.1⟩
  clear hu hb
  go_wp2
  go_ret2
  exact ⟨T, x, rfl, Y1.out.1, Y1.out.2⟩

set_option maxRecDepth 100000 in
set_option maxHeartbeats 2000000 in
theorem encode_good (v : Hi.HV) (h : Hi.Hr) (w : World) (hH : Hi.HasH w v h) (hnil : NilH v) (hc : Hi.chk h = (0, [])) (hf : HasFours w) (hg : 1 < w.heap.size) :
    Calls Tryz.prog 8 #[Hi.hvl v h] w fun e w' => ∃ mo mc, e = .returned (.tuple #[.slice mo (imB h).length mc, .nilIface]) ∧ w'.ownsRow w.heap.size 5 1 (.slice mo (imB h).length mc) (imB h).length (bv (imB h)) ∧ Below w.heap.size w w' := by
  have hs := small_of_chk hc
  have hle := len_le hs
  have hok := imW_ok hs hH
  obtain ⟨s1, s2, s3, s4, s5⟩ := small_of_chk hc
  clear s4 s5
  have hpl := imP_len h
  have hpb := imP_bts h
  have hbl : (imB h).length = (imP h).length + 4 := seal_len _
  have hbd : imB h = sealOf (imP h) := rfl
  have hpd : imP h = head8 ++ bytesOf (imW h) := rfl
  obtain ⟨no, uo, ul, wo, dl, nc, uc, ulc, wc, dlc⟩ := v
  obtain ⟨nd, uF, up, dF, dn⟩ := h
  simp only at s1 s2 s3
  have hb1 : up.length ≤ 1152921504606846976 := by omega
  have hb2 : dn.length ≤ 1152921504606846976 := by omega
  have hb3 : nd.length ≤ 1152921504606846976 := by omega
  obtain ⟨W0, hW0⟩ : ∃ W0, w.alloc (.cells #[.slice no nd.length nc, .slice uo uF.length uc, .slice ul up.length ulc, .slice wo dF.length wc, .slice dl dn.length dlc] 25) = W0 := ⟨_, rfl⟩
  have HW0 : Hid (w.alloc (.cells #[.slice no nd.length nc, .slice uo uF.length uc, .slice ul up.length ulc, .slice wo dF.length wc, .slice dl dn.length dlc] 25) = W0) := hW0
  have hB0 : Below w.heap.size w W0 := by rw [← hW0]; exact (Below.refl _ _).alloc (Nat.le_refl _) _
  have hbx : W0.heap[w.heap.size]? = some (.cells #[.slice no nd.length nc, .slice uo uF.length uc, .slice ul up.length ulc, .slice wo dF.length wc, .slice dl dn.length dlc] 25) := by rw [← hW0]; exact heap_new _ _
  have HX : Hid (∀ wx, Below W0.heap.size W0 wx → (wx.cell? ⟨w.heap.size, 0, none⟩ = some (.slice no nd.length nc) ∧ wx.cell? ⟨w.heap.size, 1, none⟩ = some (.slice uo uF.length uc) ∧ wx.cell? ⟨w.heap.size, 2, none⟩ = some (.slice ul up.length ulc) ∧ wx.cell? ⟨w.heap.size, 3, none⟩ = some (.slice wo dF.length wc) ∧ wx.cell? ⟨w.heap.size, 4, none⟩ = some (.slice dl dn.length dlc)) ∧ w.heap.size < wx.heap.size ∧ Below w.heap.size w wx ∧ Hi.HasH wx ⟨no, uo, ul, wo, dl, nc, uc, ulc, wc, dlc⟩ ⟨nd, uF, up, dF, dn⟩) := fun wx hb => by
    have q := (hb.block _ (w_lt_get hbx)).trans hbx
    have hw := hB0.trans (hb.mono hB0.size)
    exact ⟨cells5 q, w_lt_get q, hw, hH.keep hw⟩
  obtain ⟨⟨c0, c1, c2, c3, c4⟩, l0, _⟩ := HX.out W0 (Below.refl _ _)
  have HCK : Hid (Calls Tryz.prog 19 #[.agg #[.slice no nd.length nc, .slice uo uF.length uc, .slice ul up.length ulc, .slice wo dF.length wc, .slice dl dn.length dlc]] W0 fun e w' => ∃ u, e = .returned u ∧ IsTold w' (Hi.chk ⟨nd, uF, up, dF, dn⟩) u ∧ Below W0.heap.size W0 w') := Hi.check_calls ⟨no, uo, ul, wo, dl, nc, uc, ulc, wc, dlc⟩ ⟨nd, uF, up, dF, dn⟩ W0 (hH.keep hB0) hb1 hb2 hb3
  rw [hc] at HCK
  have HWO : Hid (∀ wx, Below W0.heap.size W0 wx → Calls Tryz.prog 24 #[.agg #[.slice no nd.length nc, .slice uo uF.length uc, .slice ul up.length ulc, .slice wo dF.length wc, .slice dl dn.length dlc]] wx fun e w' => ∃ mo mc, e = .returned (.slice mo (imW ⟨nd, uF, up, dF, dn⟩).length mc) ∧ HasW w' (.slice mo (imW ⟨nd, uF, up, dF, dn⟩).length mc) (imW ⟨nd, uF, up, dF, dn⟩) ∧ Below wx.heap.size wx w') := fun wx hb => by
    refine (wordsOf_calls ⟨no, uo, ul, wo, dl, nc, uc, ulc, wc, dlc⟩ ⟨nd, uF, up, dF, dn⟩ wx (HX.out wx hb).2.2.2 hs hnil).mono ?_
    rintro e w' ⟨mo, mc, rfl, ho, hb⟩
    exact ⟨mo, mc, rfl, hasW_own ho, hb⟩
  have HFR : Hid (∀ wx, Below W0.heap.size W0 wx → HasFours wx ∧ 1 < wx.heap.size) := fun wx hb => ⟨fours_keep hf hg (HX.out wx hb).2.2.1, Nat.lt_of_lt_of_le hg (HX.out wx hb).2.2.1.size⟩
  generalize imB ⟨nd, uF, up, dF, dn⟩ = Bq at *
  generalize imP ⟨nd, uF, up, dF, dn⟩ = P at *
  generalize imW ⟨nd, uF, up, dF, dn⟩ = ws at *
  have HPW : Hid (∀ lo lc ro rc wx, HasB wx (.slice lo 8 lc) head8 → (lo = none → lc = 0) → HasW wx (.slice ro ws.length rc) ws → Calls Tryz.prog 23 #[.slice lo 8 lc, .slice ro ws.length rc] wx fun e w' => ∃ mo mc, e = .returned (.slice mo P.length mc) ∧ (HasB w' (.slice mo P.length mc) P ∧ (mo = none → mc = 0)) ∧ Below wx.heap.size wx w') := fun lo lc ro rc wx h1 h2 h3 => by
    refine (putWords_calls lo ro lc rc head8 ws wx h1 h3 (by decide) (by omega) h2 hok).mono ?_
    rintro e w' ⟨g, rfl, hr⟩
    have e1 : head8.length + 4 * ws.length = P.length := by rw [hpl]; rfl
    have hr1 := hr.has
    have e2 : (head8 ++ bytesOf ws).length = P.length := by rw [hpd]
    rw [e2, ← hpd, e1] at hr1
    exact ⟨some ⟨g, 0, none⟩, P.length, by rw [e1], ⟨hr1, fun e => by cases e⟩, hr.below⟩
  have HSL : Hid (∀ lo lc wx, Below W0.heap.size W0 wx → HasB wx (.slice lo P.length lc) P → (lo = none → lc = 0) → Calls Tryz.prog 22 #[.slice lo P.length lc] wx fun e w' => ∃ mo mc, e = .returned (.slice mo Bq.length mc) ∧ w'.ownsRow wx.heap.size 5 1 (.slice mo Bq.length mc) Bq.length (bv Bq) ∧ Below wx.heap.size wx w') := fun lo lc wx hb h1 h2 => by
    refine (cSeal_calls lo lc P wx (HFR.out wx hb).1 (HFR.out wx hb).2 h1 hpb (by omega) h2).mono ?_
    rintro e w' ⟨mo, mc, rfl, ho, hb⟩
    rw [← hbd, ← hbl] at ho
    rw [← hbl]
    exact ⟨mo, mc, rfl, ho, hb⟩
  have kc := fun (w : World) (C : Array Value) (n c : Nat) => conv_const w C n c
  clear hW0 hB0 hbx hH hc hle hok hpl hpb hbl hbd hpd hnil hs hf hg
  unfold Hi.hvl
  simp only
  go_enter Tryz.func8, Tryz.ntmps8
  go_upto_region 1 with fail
  rw [HW0.out]
  go_wp2_with fail
  refine HCK.out.mono ?_
  rintro e w1 ⟨u, rfl, hu, hb⟩
  obtain rfl := told_nil hu
  have Y1 : Hid (Below W0.heap.size W0 w1) := hb
  clear hu hb c0 c1 c2 c3 c4 l0
  obtain ⟨W2, hW2⟩ : ∃ W2, w1.alloc (.cells #[.int .u8 86, .int .u8 68, .int .u8 67, .int .u8 84, .int .u8 1, .int .u8 0, .int .u8 0, .int .u8 0] 5 (8, 9)) = W2 := ⟨_, rfl⟩
  have HW2 : Hid (w1.alloc (.cells #[.int .u8 86, .int .u8 68, .int .u8 67, .int .u8 84, .int .u8 1, .int .u8 0, .int .u8 0, .int .u8 0] 5 (8, 9)) = W2) := hW2
  have b2 : Below w1.heap.size w1 W2 := by rw [← hW2]; exact (Below.refl _ _).alloc (Nat.le_refl _) _
  have Y2 : Hid (Below W0.heap.size W0 W2 ∧ HasB W2 (.slice (some ⟨w1.heap.size, 0, none⟩) 8 8) head8) := ⟨btrI Y1.out b2, by rw [← hW2]; exact hasB_new w1 head8 8 (8, 9)⟩
  clear hW2 b2
  obtain ⟨⟨c0, c1, c2, c3, c4⟩, l0, _⟩ := HX.out w1 Y1.out
  go_wp2_with fail
  rw [HW2.out]
  refine (HWO.out W2 Y2.out.1).mono ?_
  rintro e w3 ⟨o3, d3, rfl, hw3, hb⟩
  have Y3 : Hid (Below W0.heap.size W0 w3 ∧ HasB w3 (.slice (some ⟨w1.heap.size, 0, none⟩) 8 8) head8 ∧ HasW w3 (.slice o3 ws.length d3) ws) := ⟨btrI Y2.out.1 hb, Y2.out.2.keep hb, hw3⟩
  clear hw3 hb c0 c1 c2 c3 c4 l0
  go_wp2_with fail
  refine (HPW.out _ _ _ _ w3 Y3.out.2.1 (fun e => by cases e) Y3.out.2.2).mono ?_
  rintro e w4 ⟨o4, d4, rfl, hh, hb⟩
  have Y4 : Hid (Below W0.heap.size W0 w4 ∧ HasB w4 (.slice o4 P.length d4) P ∧ (o4 = none → d4 = 0)) := ⟨btrI Y3.out.1 hb, hh⟩
  clear hh hb
  go_wp2_with fail
  refine (HSL.out _ _ w4 Y4.out.1 Y4.out.2.1 Y4.out.2.2).mono ?_
  rintro e w5 ⟨o5, d5, rfl, ho, hb⟩
  have Y5 : Hid (w5.ownsRow w.heap.size 5 1 (.slice o5 Bq.length d5) Bq.length (bv Bq) ∧ Below w.heap.size w w5) := ⟨bown_base ho (HX.out w4 Y4.out.1).2.2.1.size, (HX.out w5 (btrI Y4.out.1 hb)).2.2.1⟩
  clear ho hb
  go_wp2
  go_ret2
  exact ⟨o5, d5, rfl, Y5.out.1, Y5.out.2⟩
theorem vPutW_any (lo ro : Option Addr) (lc rc : Nat) (l ws : List Nat) (w : World) (hl : HasB w (.slice lo l.length lc) l) (hr : HasW w (.slice ro ws.length rc) ws) (hm : l.length + 4 * ws.length ≤ 140737488355328) (hc : lo = none → lc = 0) (hw : ∀ x ∈ ws, x < 4294967296) :
    Calls Tryz.prog 32 #[.slice lo l.length lc, .slice ro ws.length rc] w fun e w' => ∃ mo mc, e = .returned (.slice mo (l ++ bytesOf ws).length mc) ∧ (HasB w' (.slice mo (l ++ bytesOf ws).length mc) (l ++ bytesOf ws) ∧ (mo = none → mc = 0)) ∧ Below w.heap.size w w' := by
  refine (vPutWords_calls lo ro lc rc l ws w hl hr hm hc hw).mono ?_
  rintro e w' ⟨mo, mc, rfl, ho, hb⟩
  have e1 : l.length + 4 * ws.length = (l ++ bytesOf ws).length := by rw [List.length_append, bytesOf_len]
  rw [e1] at ho
  rw [e1]
  exact ⟨mo, mc, rfl, ⟨hasB_own ho, own_nil ho⟩, hb⟩

set_option maxRecDepth 100000 in
set_option maxHeartbeats 4000000 in
theorem raw_calls (v : Hi.HV) (h : Hi.Hr) (w : World) (hH : Hi.HasH w v h) (hs : SmallH h) :
    Calls Tryz.prog 14 #[Hi.hvl v h] w fun e w' => ∃ mo mc, e = .returned (.slice mo (imB h).length mc) ∧ w'.ownsRow w.heap.size 5 1 (.slice mo (imB h).length mc) (imB h).length (bv (imB h)) ∧ Below w.heap.size w w' := by
  obtain ⟨s1, s2, s3, s4, s5⟩ := hs
  have hpb := imP_bts h
  have hbl : (imB h).length = (imP h).length + 4 := seal_len _
  have hbd : imB h = sealOf (imP h) := rfl
  have hpd : imP h = head8 ++ bytesOf [h.node.length, h.up.length, h.dn.length] ++ bytesOf h.node ++ bytesOf h.upF ++ bytesOf (lksW h.up) ++ bytesOf h.dnF ++ bytesOf (lksW h.dn) := by
    unfold imP imW
    simp only [bytesOf_append, List.append_assoc]
  obtain ⟨no, uo, ul, wo, dl, nc, uc, ulc, wc, dlc⟩ := v
  obtain ⟨nd, uF, up, dF, dn⟩ := h
  simp only at s1 s2 s3 s4 s5 hpd
  have s6 : uF.length ≤ 65537 := by omega
  have s7 : dF.length ≤ 65537 := by omega
  clear s4 s5
  obtain ⟨W0, hW0⟩ : ∃ W0, w.alloc (.cells #[.slice no nd.length nc, .slice uo uF.length uc, .slice ul up.length ulc, .slice wo dF.length wc, .slice dl dn.length dlc] 25) = W0 := ⟨_, rfl⟩
  have HW0 : Hid (w.alloc (.cells #[.slice no nd.length nc, .slice uo uF.length uc, .slice ul up.length ulc, .slice wo dF.length wc, .slice dl dn.length dlc] 25) = W0) := hW0
  have hB0 : Below w.heap.size w W0 := by rw [← hW0]; exact (Below.refl _ _).alloc (Nat.le_refl _) _
  have hbx : W0.heap[w.heap.size]? = some (.cells #[.slice no nd.length nc, .slice uo uF.length uc, .slice ul up.length ulc, .slice wo dF.length wc, .slice dl dn.length dlc] 25) := by rw [← hW0]; exact heap_new _ _
  have HX : Hid (∀ wx, Below W0.heap.size W0 wx → (wx.cell? ⟨w.heap.size, 0, none⟩ = some (.slice no nd.length nc) ∧ wx.cell? ⟨w.heap.size, 1, none⟩ = some (.slice uo uF.length uc) ∧ wx.cell? ⟨w.heap.size, 2, none⟩ = some (.slice ul up.length ulc) ∧ wx.cell? ⟨w.heap.size, 3, none⟩ = some (.slice wo dF.length wc) ∧ wx.cell? ⟨w.heap.size, 4, none⟩ = some (.slice dl dn.length dlc)) ∧ w.heap.size < wx.heap.size ∧ Below w.heap.size w wx ∧ Hi.HasH wx ⟨no, uo, ul, wo, dl, nc, uc, ulc, wc, dlc⟩ ⟨nd, uF, up, dF, dn⟩) := fun wx hb => by
    have q := (hb.block _ (w_lt_get hbx)).trans hbx
    have hw := hB0.trans (hb.mono hB0.size)
    exact ⟨cells5 q, w_lt_get q, hw, hH.keep hw⟩
  obtain ⟨⟨c0, c1, c2, c3, c4⟩, l0, _⟩ := HX.out W0 (Below.refl _ _)
  have hws : ∀ wx, Below W0.heap.size W0 wx → HasW wx (.slice no nd.length nc) nd ∧ HasW wx (.slice uo uF.length uc) uF ∧ HasW wx (.slice wo dF.length wc) dF := fun wx hb => by
    obtain ⟨q1, q2, q3, q4, q5⟩ := (HX.out wx hb).2.2.2
    exact ⟨hasW_ws q1, hasW_ws q2, hasW_ws q4⟩
  have HWS : Hid (type_of% hws) := hws
  have HOK : Hid ((∀ x ∈ nd, x < 4294967296) ∧ (∀ x ∈ uF, x < 4294967296) ∧ (∀ x ∈ dF, x < 4294967296)) := ⟨Hi.HasWs.ok hH.node, Hi.HasWs.ok hH.upF, Hi.HasWs.ok hH.dnF⟩
  have HPD : Hid (imP ⟨nd, uF, up, dF, dn⟩ = head8 ++ bytesOf [nd.length, up.length, dn.length] ++ bytesOf nd ++ bytesOf uF ++ bytesOf (lksW up) ++ bytesOf dF ++ bytesOf (lksW dn)) := hpd
  have HBD : Hid (Bts (imP ⟨nd, uF, up, dF, dn⟩) ∧ (imB ⟨nd, uF, up, dF, dn⟩).length = (imP ⟨nd, uF, up, dF, dn⟩).length + 4 ∧ imB ⟨nd, uF, up, dF, dn⟩ = sealOf (imP ⟨nd, uF, up, dF, dn⟩)) := ⟨hpb, hbl, hbd⟩
  generalize imB ⟨nd, uF, up, dF, dn⟩ = Bq at *
  generalize imP ⟨nd, uF, up, dF, dn⟩ = P at *
  have v1 : IntKind.u32.wrap (nd.length : Int) = (nd.length : Int) := by rw [IntKind.wrap_u32]; omega
  have v2 : IntKind.u32.wrap (up.length : Int) = (up.length : Int) := by rw [IntKind.wrap_u32]; omega
  have v3 : IntKind.u32.wrap (dn.length : Int) = (dn.length : Int) := by rw [IntKind.wrap_u32]; omega
  obtain ⟨P1, hP1⟩ : ∃ P1, head8 ++ bytesOf [nd.length, up.length, dn.length] = P1 := ⟨_, rfl⟩
  have l1 : P1.length ≤ 20 := by rw [← hP1, List.length_append, bytesOf_len]; exact Nat.le_refl _
  have hk3 : ∀ x ∈ [nd.length, up.length, dn.length], x < 4294967296 := fun x hx => by
    simp only [List.mem_cons, List.not_mem_nil, or_false] at hx
    rcases hx with rfl | rfl | rfl <;> omega
  have HPA : Hid (∀ (y1 : World) (o1 : Option Addr) (d1 : Nat), Below W0.heap.size W0 y1 → HasB y1 (.slice o1 8 d1) head8 ∧ (o1 = none → d1 = 0) → HasW y1 (.slice (some ⟨W0.heap.size, 0, none⟩) 3 3) [nd.length, up.length, dn.length] → Calls Tryz.prog 32 #[.slice o1 8 d1, .slice (some ⟨W0.heap.size, 0, none⟩) 3 3] y1 fun e w' => ∃ mo mc, e = .returned (.slice mo P1.length mc) ∧ (HasB w' (.slice mo P1.length mc) P1 ∧ (mo = none → mc = 0)) ∧ Below W0.heap.size W0 w') := fun y1 o1 d1 h1 h2 h3 => by
    refine (vPutW_any o1 _ d1 3 head8 [nd.length, up.length, dn.length] y1 h2.1 h3 (by show 8 + 4 * 3 ≤ _; omega) h2.2 hk3).mono ?_
    rintro e w' ⟨mo, mc, rfl, hh, hb⟩
    rw [hP1] at hh ⊢
    exact ⟨mo, mc, rfl, hh, btrI h1 hb⟩
  have HPB : Hid (∀ (y1 : World) (o1 : Option Addr) (d1 : Nat), Below W0.heap.size W0 y1 → HasB y1 (.slice o1 8 d1) head8 ∧ (o1 = none → d1 = 0) → Calls Tryz.prog 32 #[.slice o1 8 d1, .slice (some ⟨y1.heap.size, 0, none⟩) 3 3] (y1.alloc (.cells #[.int .u32 (nd.length : Int), .int .u32 (up.length : Int), .int .u32 (dn.length : Int)] 39)) fun e w' => ∃ mo mc, e = .returned (.slice mo P1.length mc) ∧ (HasB w' (.slice mo P1.length mc) P1 ∧ (mo = none → mc = 0)) ∧ Below W0.heap.size W0 w') := fun y1 o1 d1 h1 h2 => by
    have b1 : Below y1.heap.size y1 (y1.alloc (.cells #[.int .u32 (nd.length : Int), .int .u32 (up.length : Int), .int .u32 (dn.length : Int)] 39)) := (Below.refl _ _).alloc (Nat.le_refl _) _
    refine (vPutW_any o1 _ d1 3 head8 [nd.length, up.length, dn.length] (y1.alloc (.cells #[.int .u32 (nd.length : Int), .int .u32 (up.length : Int), .int .u32 (dn.length : Int)] 39)) (h2.1.keep b1) (hasW_lit y1 [nd.length, up.length, dn.length] 39) (by show 8 + 4 * 3 ≤ _; omega) h2.2 hk3).mono ?_
    rintro e w' ⟨mo, mc, rfl, hh, hb⟩
    rw [hP1] at hh ⊢
    exact ⟨mo, mc, rfl, hh, btrI (btrI h1 b1) hb⟩
  have H3W : Hid (HasW (W0.alloc (.cells #[.int .u32 (nd.length : Int), .int .u32 (up.length : Int), .int .u32 (dn.length : Int)] 39)) (.slice (some ⟨W0.heap.size, 0, none⟩) 3 3) [nd.length, up.length, dn.length]) := hasW_lit W0 [nd.length, up.length, dn.length] 39
  have HP1 : Hid (head8 ++ bytesOf [nd.length, up.length, dn.length] = P1) := hP1
  clear hP1 hk3
  clear hW0 hB0 hbx hH hpb hbl hbd hpd hws
  unfold Hi.hvl
  simp only
  go_enter Tryz.func14, Tryz.ntmps14
  go_upto_region 1 with fail
  rw [HW0.out]
  go_region_held3 (fun w' => w'.cell? ⟨w.heap.size, 0, none⟩ = some (.slice no nd.length nc) ∧ w'.cell? ⟨w.heap.size, 2, none⟩ = some (.slice ul up.length ulc) ∧ w'.cell? ⟨w.heap.size, 4, none⟩ = some (.slice dl dn.length dlc)) (go_keep) (first
    | (go_at_call 32; (first | (have tk := TK1; clear tk; refine (HPB.out y1 o1 d1 Y1.out.1 Y1.out.2).mono ?_) | (have tk := Y1w; clear tk; refine (HPA.out y1 o1 d1 Y1.out.1 Y1.out.2 Y1w.out).mono ?_)); rintro e y2 ⟨o2, d2, rfl, hh, hb⟩; have Y2 : Hid (Below W0.heap.size W0 y2 ∧ HasB y2 (.slice o2 P1.length d2) P1 ∧ (o2 = none → d2 = 0)) := ⟨hb, hh⟩; clear c0 c1 c2 c3 c4 l0; obtain ⟨⟨c0, c1, c2, c3, c4⟩, l0, _⟩ := HX.out y2 Y2.out.1; clear hh hb)
    | (go_at_call 33; refine (jHead_calls _).mono ?_; rintro e y1 ⟨o1, d1, rfl, ho, hb⟩; (first | (have b1 : Below W0.heap.size W0 y1 := (by with_reducible exact btrI (Below.refl _ _).drew hb); have TK1 : Hid (1 = 1) := rfl) | (have b0 : Below (W0.alloc (.cells #[.int .u32 (nd.length : Int), .int .u32 (up.length : Int), .int .u32 (dn.length : Int)] 39)).heap.size (W0.alloc (.cells #[.int .u32 (nd.length : Int), .int .u32 (up.length : Int), .int .u32 (dn.length : Int)] 39)) y1 := (by with_reducible exact btrI (Below.refl _ _).drew hb); have b1 : Below W0.heap.size W0 y1 := btrI ((Below.refl _ _).alloc (Nat.le_refl _) _) b0; have Y1w : Hid (HasW y1 (.slice (some ⟨W0.heap.size, 0, none⟩) 3 3) [nd.length, up.length, dn.length]) := H3W.out.keep b0; clear b0)); have Y1 : Hid (Below W0.heap.size W0 y1 ∧ HasB y1 (.slice o1 8 d1) head8 ∧ (o1 = none → d1 = 0)) := ⟨b1, hasB_own (l := head8) ho, own_nil ho⟩; clear b1; clear c0 c1 c2 c3 c4 l0; obtain ⟨⟨c0, c1, c2, c3, c4⟩, l0, _⟩ := HX.out y1 Y1.out.1; clear ho hb))
  all_goals
    clear v1 v2 v3
    go_wp2_with fail
    refine (vPutW_any o2 no d2 nc P1 nd y2 Y2.out.2.1 (HWS.out y2 Y2.out.1).1 (by omega) Y2.out.2.2 HOK.out.1).mono ?_
    rintro e y3 ⟨o3, d3, rfl, hh, hb⟩
    obtain ⟨P2, hP2⟩ : ∃ P, P1 ++ bytesOf nd = P := ⟨_, rfl⟩
    have Y3 : Hid (Below W0.heap.size W0 y3 ∧ HasB y3 (.slice o3 P2.length d3) P2 ∧ (o3 = none → d3 = 0)) := by rw [← hP2]; exact ⟨btrI Y2.out.1 hb, hh⟩
    rw [hP2]
    have HP2 : Hid (P1 ++ bytesOf nd = P2) := hP2
    have l2 : P2.length ≤ 300000 := by rw [← hP2, List.length_append, bytesOf_len]; omega
    clear hb hP2 hh c0 c1 c2 c3 c4 l0
    obtain ⟨⟨c0, c1, c2, c3, c4⟩, l0, _⟩ := HX.out y3 Y3.out.1
    go_wp2_with fail
    refine (vPutW_any o3 uo d3 uc P2 uF y3 Y3.out.2.1 (HWS.out y3 Y3.out.1).2.1 (by omega) Y3.out.2.2 HOK.out.2.1).mono ?_
    rintro e y4 ⟨o4, d4, rfl, hh, hb⟩
    obtain ⟨P3, hP3⟩ : ∃ P, P2 ++ bytesOf uF = P := ⟨_, rfl⟩
    have Y4 : Hid (Below W0.heap.size W0 y4 ∧ HasB y4 (.slice o4 P3.length d4) P3 ∧ (o4 = none → d4 = 0)) := by rw [← hP3]; exact ⟨btrI Y3.out.1 hb, hh⟩
    rw [hP3]
    have HP3 : Hid (P2 ++ bytesOf uF = P3) := hP3
    have l3 : P3.length ≤ 600000 := by rw [← hP3, List.length_append, bytesOf_len]; omega
    clear hb hP3 hh c0 c1 c2 c3 c4 l0
    obtain ⟨⟨c0, c1, c2, c3, c4⟩, l0, _⟩ := HX.out y4 Y4.out.1
    go_wp2_with fail
    refine (jLinks_calls o4 d4 P3 ul ulc up y4 Y4.out.2.1 Y4.out.2.2 (HX.out y4 Y4.out.1).2.2.2.up (by omega) (by omega)).mono ?_
    rintro e y5 ⟨o5, d5, rfl, h1, h2, hb⟩
    obtain ⟨P4, hP4⟩ : ∃ P, P3 ++ bytesOf (lksW up) = P := ⟨_, rfl⟩
    have Y5 : Hid (Below W0.heap.size W0 y5 ∧ HasB y5 (.slice o5 P4.length d5) P4 ∧ (o5 = none → d5 = 0)) := by rw [← hP4]; exact ⟨btrI Y4.out.1 hb, ⟨h1, h2⟩⟩
    rw [hP4]
    have HP4 : Hid (P3 ++ bytesOf (lksW up) = P4) := hP4
    have l4 : P4.length ≤ 30000000 := by rw [← hP4, List.length_append, bytesOf_len, lksW_len]; omega
    clear hb hP4 h1 h2 c0 c1 c2 c3 c4 l0
    obtain ⟨⟨c0, c1, c2, c3, c4⟩, l0, _⟩ := HX.out y5 Y5.out.1
    go_wp2_with fail
    refine (vPutW_any o5 wo d5 wc P4 dF y5 Y5.out.2.1 (HWS.out y5 Y5.out.1).2.2 (by omega) Y5.out.2.2 HOK.out.2.2).mono ?_
    rintro e y6 ⟨o6, d6, rfl, hh, hb⟩
    obtain ⟨P5, hP5⟩ : ∃ P, P4 ++ bytesOf dF = P := ⟨_, rfl⟩
    have Y6 : Hid (Below W0.heap.size W0 y6 ∧ HasB y6 (.slice o6 P5.length d6) P5 ∧ (o6 = none → d6 = 0)) := by rw [← hP5]; exact ⟨btrI Y5.out.1 hb, hh⟩
    rw [hP5]
    have HP5 : Hid (P4 ++ bytesOf dF = P5) := hP5
    have l5 : P5.length ≤ 31000000 := by rw [← hP5, List.length_append, bytesOf_len]; omega
    clear hb hP5 hh c0 c1 c2 c3 c4 l0
    obtain ⟨⟨c0, c1, c2, c3, c4⟩, l0, _⟩ := HX.out y6 Y6.out.1
    go_wp2_with fail
    refine (jLinks_calls o6 d6 P5 dl dlc dn y6 Y6.out.2.1 Y6.out.2.2 (HX.out y6 Y6.out.1).2.2.2.dn (by omega) (by omega)).mono ?_
    rintro e y7 ⟨o7, d7, rfl, h1, h2, hb⟩
    obtain ⟨P6, hP6⟩ : ∃ P, P5 ++ bytesOf (lksW dn) = P := ⟨_, rfl⟩
    have Y7 : Hid (Below W0.heap.size W0 y7 ∧ HasB y7 (.slice o7 P6.length d7) P6 ∧ (o7 = none → d7 = 0)) := by rw [← hP6]; exact ⟨btrI Y6.out.1 hb, ⟨h1, h2⟩⟩
    rw [hP6]
    have HP6 : Hid (P5 ++ bytesOf (lksW dn) = P6) := hP6
    have l6 : P6.length ≤ 62000000 := by rw [← hP6, List.length_append, bytesOf_len, lksW_len]; omega
    clear hb hP6 h1 h2 c0 c1 c2 c3 c4 l0
    obtain ⟨⟨c0, c1, c2, c3, c4⟩, l0, _⟩ := HX.out y7 Y7.out.1
    have eP : P = P6 := by rw [HPD.out, ← HP6.out, ← HP5.out, ← HP4.out, ← HP3.out, ← HP2.out, ← HP1.out]
    have HSL : Hid (Calls Tryz.prog 35 #[.slice o7 P6.length d7] y7 fun e w' => ∃ mo mc, e = .returned (.slice mo Bq.length mc) ∧ w'.ownsRow w.heap.size 5 1 (.slice mo Bq.length mc) Bq.length (bv Bq) ∧ Below w.heap.size w w') := by
      obtain ⟨q1, q2, q3⟩ := HBD.out
      rw [eP] at q1 q2 q3
      refine (kSeal_calls o7 d7 P6 y7 Y7.out.2.1 q1 (by omega) Y7.out.2.2).mono ?_
      rintro e w' ⟨mo, mc, rfl, ho, hb⟩
      rw [← q3, ← q2] at ho
      rw [← q2]
      exact ⟨mo, mc, rfl, bown_base ho (HX.out y7 Y7.out.1).2.2.1.size, btrI (HX.out y7 Y7.out.1).2.2.1 hb⟩
    clear eP
    go_wp2_with fail
    refine HSL.out.mono ?_
    rintro e y8 ⟨o8, d8, rfl, ho, hb⟩
    have Y8 : Hid (y8.ownsRow w.heap.size 5 1 (.slice o8 Bq.length d8) Bq.length (bv Bq) ∧ Below w.heap.size w y8) := ⟨ho, hb⟩
    clear ho hb
    go_wp2
    go_ret
    exact ⟨o8, d8, rfl, Y8.out.1, Y8.out.2⟩
end Go.Proofs.YtamedcnjanichabGreatDoor

namespace Go.Proofs.YtamedcnjanichabGreatDoor
open Go.RowKit Go.Extern Cr

attribute [local go_sem] Oper.semAt_some

theorem two_newI (w : World) (X Y : Obj) : ((w.alloc X).alloc Y).heap[w.heap.size]? = some X ∧ ((w.alloc X).alloc Y).heap[w.heap.size + 1]? = some Y ∧ Below w.heap.size w ((w.alloc X).alloc Y) := by
  refine ⟨?_, ?_, ((Below.refl _ w).alloc (Nat.le_refl _) _).alloc (by simp) _⟩
  · rw [Below.heap_alloc _ _ _ (by simp)]; exact heap_new _ _
  · have h := heap_new (w.alloc X) Y
    simpa using h
theorem set2I {w : World} {g : Nat} {c0 c1 v0 v1 : Value} {T : TypeId} (h : w.heap[g]? = some (.cells #[c0, c1] T (0, 0))) : ((w.setCell ⟨g, 0, none⟩ v0).setCell ⟨g, 1, none⟩ v1).heap[g]? = some (.cells #[v0, v1] T (0, 0)) := by
  rw [heap_setCell_same _ g 1 _ T v1 (heap_setCell_same w g 0 _ T v0 h)]
  rfl
theorem below2I {w : World} {g b : Nat} {v0 v1 : Value} (h : b ≤ g) : Below b w ((w.setCell ⟨g, 0, none⟩ v0).setCell ⟨g, 1, none⟩ v1) := ((Below.refl _ w).setCell (p := ⟨g, 0, none⟩) (show b ≤ g from h) _).setCell (p := ⟨g, 1, none⟩) (show b ≤ g from h) _
theorem other2I {w : World} {g j : Nat} {v0 v1 : Value} (h : j ≠ g) : ((w.setCell ⟨g, 0, none⟩ v0).setCell ⟨g, 1, none⟩ v1).heap[j]? = w.heap[j]? := by
  have e : ∀ (w : World) (o : Nat) (v : Value), (w.setCell ⟨g, o, none⟩ v).heap[j]? = w.heap[j]? := fun w o v => by
    first | exact heap_setCell_other _ _ _ _ h | exact heap_setCell_other _ _ _ _ h.symm
  rw [e, e]
theorem cell2I {w : World} {b : Nat} {c0 c1 : Value} {T : TypeId} (h : w.heap[b]? = some (.cells #[c0, c1] T)) : w.cell? ⟨b, 0, none⟩ = some c0 ∧ w.cell? ⟨b, 1, none⟩ = some c1 ∧ w.frozen? ⟨b, 0, none⟩ = false ∧ w.frozen? ⟨b, 1, none⟩ = false := by
  simp [World.cell?, World.frozen?, h]
theorem told_anyI {E : Int × List (Int × Int)} (h : E ≠ (0, [])) : (E.1 != 0 || decide (0 < E.2.length)) = true := by
  obtain ⟨c, ps⟩ := E
  by_cases hc : c = 0
  · subst hc
    cases ps with
    | nil => exact absurd rfl h
    | cons a r => simp
  · simp [hc]
theorem jSize_calls (n u d : Nat) (hn : n ≤ 4294967296) (hu : u ≤ 4294967296) (hd : d ≤ 4294967296) (w : World) : Calls Tryz.prog 54 #[.int .i64 (n : Int), .int .i64 (u : Int), .int .i64 (d : Int)] w fun e w' => e = .returned (.int .i64 ((32 + 12 * n + 20 * (u + d) : Nat) : Int)) ∧ w' = w := by
  go_enter Tryz.func54, Tryz.ntmps54
  go_wp2
  go_ret
  exact ⟨by go_num, rfl⟩

set_option maxRecDepth 100000 in
set_option maxHeartbeats 4000000 in
theorem docEncode_bad (v : Hi.HV) (h : Hi.Hr) (w : World) (hH : Hi.HasH w v h) (hb1 : h.up.length ≤ 1152921504606846976) (hb2 : h.dn.length ≤ 1152921504606846976) (hb3 : h.node.length ≤ 1152921504606846976) (hc : Hi.chk h ≠ (0, [])) :
    Calls Tryz.prog 12 #[Hi.hvl v h] w fun e w' => ∃ lo lc, e = .returned (.tuple #[.slice none 0 0, .agg #[.int .i64 (Hi.chk h).1, .slice lo (Hi.chk h).2.length lc]]) ∧ HasPlaces w' (.slice lo (Hi.chk h).2.length lc) (Hi.chk h).2 ∧ Below w.heap.size w w' := by
  obtain ⟨no, uo, ul, wo, dl, nc, uc, ulc, wc, dlc⟩ := v
  obtain ⟨nd, uF, up, dF, dn⟩ := h
  obtain ⟨q0, q1, q2⟩ := two_newI w (.cells #[.slice no nd.length nc, .slice uo uF.length uc, .slice ul up.length ulc, .slice wo dF.length wc, .slice dl dn.length dlc] 25) (.cells #[.int .i64 0, .slice none 0 0] 46)
  obtain ⟨W0, hW0⟩ : ∃ W0, (w.alloc (.cells #[.slice no nd.length nc, .slice uo uF.length uc, .slice ul up.length ulc, .slice wo dF.length wc, .slice dl dn.length dlc] 25)).alloc (.cells #[.int .i64 0, .slice none 0 0] 46) = W0 := ⟨_, rfl⟩
  rw [hW0] at q0 q1 q2
  have HW0 : Hid ((w.alloc (.cells #[.slice no nd.length nc, .slice uo uF.length uc, .slice ul up.length ulc, .slice wo dF.length wc, .slice dl dn.length dlc] 25)).alloc (.cells #[.int .i64 0, .slice none 0 0] 46) = W0) := hW0
  have HX : Hid (∀ wx, Below W0.heap.size W0 wx → (wx.cell? ⟨w.heap.size, 0, none⟩ = some (.slice no nd.length nc) ∧ wx.cell? ⟨w.heap.size, 1, none⟩ = some (.slice uo uF.length uc) ∧ wx.cell? ⟨w.heap.size, 2, none⟩ = some (.slice ul up.length ulc) ∧ wx.cell? ⟨w.heap.size, 3, none⟩ = some (.slice wo dF.length wc) ∧ wx.cell? ⟨w.heap.size, 4, none⟩ = some (.slice dl dn.length dlc)) ∧ w.heap.size < wx.heap.size ∧ Below w.heap.size w wx ∧ Hi.HasH wx ⟨no, uo, ul, wo, dl, nc, uc, ulc, wc, dlc⟩ ⟨nd, uF, up, dF, dn⟩ ∧ wx.heap[w.heap.size + 1]? = some (.cells #[.int .i64 0, .slice none 0 0] 46 (0, 0))) := fun wx hb => by
    have q := (hb.block _ (w_lt_get q0)).trans q0
    have hw := q2.trans (hb.mono q2.size)
    exact ⟨cells5 q, w_lt_get q, hw, hH.keep hw, (hb.block _ (w_lt_get q1)).trans q1⟩
  have HDC : Hid (Calls Tryz.prog 31 #[.agg #[.slice no nd.length nc, .slice uo uF.length uc, .slice ul up.length ulc, .slice wo dF.length wc, .slice dl dn.length dlc]] W0 fun e w' => Hi.RA W0 (Hi.chk ⟨nd, uF, up, dF, dn⟩) e w') := Hi.docCheck10_calls ⟨no, uo, ul, wo, dl, nc, uc, ulc, wc, dlc⟩ ⟨nd, uF, up, dF, dn⟩ W0 (hH.keep q2) hb1 hb2 hb3
  obtain ⟨⟨c0, c1, c2, c3, c4⟩, l0, _⟩ := HX.out W0 (Below.refl _ _)
  have HBAD : Hid (∀ lo lc wx, Calls Tryz.prog 28 #[.agg #[.int .i64 (Hi.chk ⟨nd, uF, up, dF, dn⟩).1, .slice lo (Hi.chk ⟨nd, uF, up, dF, dn⟩).2.length lc]] wx fun e w' => e = .returned (.bool true) ∧ Below wx.heap.size wx w') := fun lo lc wx => by
    have q := bad_calls (Hi.chk ⟨nd, uF, up, dF, dn⟩).1 lo (Hi.chk ⟨nd, uF, up, dF, dn⟩).2.length lc wx
    rw [told_anyI hc] at q
    exact q
  generalize Hi.chk ⟨nd, uF, up, dF, dn⟩ = E at *
  clear hW0 hH hc q0 q1 q2
  unfold Hi.hvl
  simp only
  go_enter Tryz.func12, Tryz.ntmps12
  go_upto_region 1 with fail
  rw [HW0.out]
  go_wp2_with fail
  refine HDC.out.mono ?_
  rintro e w1 ⟨lo, lc, rfl, hp, hb⟩
  have Y1 : Hid (Below W0.heap.size W0 w1 ∧ HasPlaces w1 (.slice lo E.2.length lc) E.2) := ⟨hb, hp⟩
  clear hb hp c0 c1 c2 c3 c4 l0
  obtain ⟨W2, hW2⟩ : ∃ W2, w1.alloc (.cells #[.int .i64 E.1, .slice lo E.2.length lc] 46) = W2 := ⟨_, rfl⟩
  have HW2 : Hid (w1.alloc (.cells #[.int .i64 E.1, .slice lo E.2.length lc] 46) = W2) := hW2
  have b2 : Below w1.heap.size w1 W2 := by rw [← hW2]; exact (Below.refl _ _).alloc (Nat.le_refl _) _
  have k2 : W2.heap[w1.heap.size]? = some (.cells #[.int .i64 E.1, .slice lo E.2.length lc] 46) := by rw [← hW2]; exact heap_new _ _
  have HX2 : Hid (∀ wx, Below W2.heap.size W2 wx → (wx.cell? ⟨w1.heap.size, 0, none⟩ = some (.int .i64 E.1) ∧ wx.cell? ⟨w1.heap.size, 1, none⟩ = some (.slice lo E.2.length lc)) ∧ w1.heap.size < wx.heap.size ∧ Below W0.heap.size W0 wx ∧ Below w1.heap.size w1 wx) := fun wx hb => by
    have q := (hb.block _ (w_lt_get k2)).trans k2
    exact ⟨⟨(cell2I q).1, (cell2I q).2.1⟩, w_lt_get q, btrI Y1.out.1 (btrI b2 hb), btrI b2 hb⟩
  clear hW2 b2 k2
  obtain ⟨⟨e0, e1⟩, es, _⟩ := HX2.out W2 (Below.refl _ _)
  go_upto_region 2 with fail
  rw [HW2.out]
  go_wp2_with fail
  refine (HBAD.out lo lc W2).mono ?_
  rintro e w3 ⟨rfl, hb⟩
  have Y3 : Hid (Below W2.heap.size W2 w3) := hb
  clear hb e0 e1 es
  obtain ⟨⟨e0, e1⟩, es, hbw, hb1w⟩ := HX2.out w3 Y3.out
  obtain ⟨_, _, hbx, _, hz⟩ := HX.out w3 hbw
  obtain ⟨r0, r1, f0, f1⟩ := cell2I hz
  have rs := w_lt_get hz
  have HZ : Hid (w3.heap[w.heap.size + 1]? = some (.cells #[.int .i64 0, .slice none 0 0] 46 (0, 0)) ∧ Below w.heap.size w w3 ∧ HasPlaces w3 (.slice lo E.2.length lc) E.2) := ⟨hz, hbx, Y1.out.2.keep hb1w⟩
  have n1 : w1.heap.size ≠ w.heap.size + 1 := by
    have := w_lt_get (HX.out w1 Y1.out.1).2.2.2.2
    omega
  have n2 : w.heap.size + 1 ≠ w1.heap.size := Ne.symm n1
  clear hbw hb1w hbx hz
  go_upto_region 3 with fail
  go_region_held3 (fun w' => w'.cell? ⟨w1.heap.size, 0, none⟩ = some (.int .i64 E.1) ∧ w'.cell? ⟨w1.heap.size, 1, none⟩ = some (.slice lo E.2.length lc)) (go_keep) (fail)
  go_wp2
  rw [show ((World.setCell w3 ⟨w.heap.size + 1, 0, none⟩ (.int .i64 E.1)).setCell ⟨w.heap.size + 1, 1, none⟩ (.slice lo E.2.length lc)).drew = ((World.setCell w3.drew ⟨w.heap.size + 1, 0, none⟩ (.int .i64 E.1)).setCell ⟨w.heap.size + 1, 1, none⟩ (.slice lo E.2.length lc)) from rfl]
  obtain ⟨z1, z2, z3⟩ := HZ.out
  have z4 : w3.drew.heap[w.heap.size + 1]? = some (.cells #[.int .i64 0, .slice none 0 0] 46 (0, 0)) := z1
  have z5 : HasPlaces w3.drew (.slice lo E.2.length lc) E.2 := z3
  have y1 := set2I (v0 := .int .i64 E.1) (v1 := .slice lo E.2.length lc) z4
  have y2 : Below w.heap.size w ((World.setCell w3.drew ⟨w.heap.size + 1, 0, none⟩ (.int .i64 E.1)).setCell ⟨w.heap.size + 1, 1, none⟩ (.slice lo E.2.length lc)) := z2.drew.trans (below2I (by omega))
  have y3 := Hi.pl_sets z4 z5 (.int .i64 E.1) (.slice lo E.2.length lc)
  generalize ((World.setCell w3.drew ⟨w.heap.size + 1, 0, none⟩ (.int .i64 E.1)).setCell ⟨w.heap.size + 1, 1, none⟩ (.slice lo E.2.length lc)) = Wf at *
  obtain ⟨u0, u1, _, _⟩ := cell2I y1
  exact bodyPost_ret (v := .tuple #[.slice none 0 0, .agg #[.int .i64 E.1, .slice lo E.2.length lc]]) (by simp [results, Tryz.results12, go_sem, u0, u1]) rfl ⟨lo, lc, rfl, y3, y2⟩

set_option maxRecDepth 100000 in
set_option maxHeartbeats 4000000 in
theorem docEncode_good (v : Hi.HV) (h : Hi.Hr) (w : World) (hH : Hi.HasH w v h) (hc : Hi.chk h = (0, [])) :
    Calls Tryz.prog 12 #[Hi.hvl v h] w fun e w' => ∃ mo mc, e = .returned (.tuple #[.slice mo (imB h).length mc, .agg #[.int .i64 0, .slice none 0 0]]) ∧ HasB w' (.slice mo (imB h).length mc) (imB h) ∧ Below w.heap.size w w' := by
  have hs := small_of_chk hc
  obtain ⟨s1, s2, s3, s4, s5⟩ := small_of_chk hc
  clear s4 s5
  obtain ⟨no, uo, ul, wo, dl, nc, uc, ulc, wc, dlc⟩ := v
  obtain ⟨nd, uF, up, dF, dn⟩ := h
  simp only at s1 s2 s3
  have hb1 : up.length ≤ 1152921504606846976 := by omega
  have hb2 : dn.length ≤ 1152921504606846976 := by omega
  have hb3 : nd.length ≤ 1152921504606846976 := by omega
  obtain ⟨q0, q1, q2⟩ := two_newI w (.cells #[.slice no nd.length nc, .slice uo uF.length uc, .slice ul up.length ulc, .slice wo dF.length wc, .slice dl dn.length dlc] 25) (.cells #[.int .i64 0, .slice none 0 0] 46)
  obtain ⟨W0, hW0⟩ : ∃ W0, (w.alloc (.cells #[.slice no nd.length nc, .slice uo uF.length uc, .slice ul up.length ulc, .slice wo dF.length wc, .slice dl dn.length dlc] 25)).alloc (.cells #[.int .i64 0, .slice none 0 0] 46) = W0 := ⟨_, rfl⟩
  rw [hW0] at q0 q1 q2
  have HW0 : Hid ((w.alloc (.cells #[.slice no nd.length nc, .slice uo uF.length uc, .slice ul up.length ulc, .slice wo dF.length wc, .slice dl dn.length dlc] 25)).alloc (.cells #[.int .i64 0, .slice none 0 0] 46) = W0) := hW0
  have HX : Hid (∀ wx, Below W0.heap.size W0 wx → (wx.cell? ⟨w.heap.size, 0, none⟩ = some (.slice no nd.length nc) ∧ wx.cell? ⟨w.heap.size, 1, none⟩ = some (.slice uo uF.length uc) ∧ wx.cell? ⟨w.heap.size, 2, none⟩ = some (.slice ul up.length ulc) ∧ wx.cell? ⟨w.heap.size, 3, none⟩ = some (.slice wo dF.length wc) ∧ wx.cell? ⟨w.heap.size, 4, none⟩ = some (.slice dl dn.length dlc)) ∧ w.heap.size < wx.heap.size ∧ Below w.heap.size w wx ∧ Hi.HasH wx ⟨no, uo, ul, wo, dl, nc, uc, ulc, wc, dlc⟩ ⟨nd, uF, up, dF, dn⟩ ∧ wx.heap[w.heap.size + 1]? = some (.cells #[.int .i64 0, .slice none 0 0] 46 (0, 0))) := fun wx hb => by
    have q := (hb.block _ (w_lt_get q0)).trans q0
    have hw := q2.trans (hb.mono q2.size)
    exact ⟨cells5 q, w_lt_get q, hw, hH.keep hw, (hb.block _ (w_lt_get q1)).trans q1⟩
  have HDC : Hid (Calls Tryz.prog 31 #[.agg #[.slice no nd.length nc, .slice uo uF.length uc, .slice ul up.length ulc, .slice wo dF.length wc, .slice dl dn.length dlc]] W0 fun e w' => Hi.RA W0 (Hi.chk ⟨nd, uF, up, dF, dn⟩) e w') := Hi.docCheck10_calls ⟨no, uo, ul, wo, dl, nc, uc, ulc, wc, dlc⟩ ⟨nd, uF, up, dF, dn⟩ W0 (hH.keep q2) hb1 hb2 hb3
  obtain ⟨⟨c0, c1, c2, c3, c4⟩, l0, _⟩ := HX.out W0 (Below.refl _ _)
  rw [hc] at HDC
  have HBAD : Hid (∀ lo lc wx, Calls Tryz.prog 28 #[.agg #[.int .i64 0, .slice lo 0 lc]] wx fun e w' => e = .returned (.bool false) ∧ Below wx.heap.size wx w') := fun lo lc wx => by
    have q := bad_calls 0 lo 0 lc wx
    rw [show ((0 : Int) != 0 || decide (0 < 0)) = false by simp] at q
    exact q
  have HRW : Hid (∀ wx, Below W0.heap.size W0 wx → Calls Tryz.prog 14 #[.agg #[.slice no nd.length nc, .slice uo uF.length uc, .slice ul up.length ulc, .slice wo dF.length wc, .slice dl dn.length dlc]] wx fun e w' => ∃ mo mc, e = .returned (.slice mo (imB ⟨nd, uF, up, dF, dn⟩).length mc) ∧ w'.ownsRow wx.heap.size 5 1 (.slice mo (imB ⟨nd, uF, up, dF, dn⟩).length mc) (imB ⟨nd, uF, up, dF, dn⟩).length (bv (imB ⟨nd, uF, up, dF, dn⟩)) ∧ Below wx.heap.size wx w') := fun wx hb => raw_calls ⟨no, uo, ul, wo, dl, nc, uc, ulc, wc, dlc⟩ ⟨nd, uF, up, dF, dn⟩ wx (HX.out wx hb).2.2.2.1 hs
  generalize imB ⟨nd, uF, up, dF, dn⟩ = Bq at *
  clear hW0 hH hc q0 q1 q2 hs
  unfold Hi.hvl
  simp only
  go_enter Tryz.func12, Tryz.ntmps12
  go_upto_region 1 with fail
  rw [HW0.out]
  go_wp2_with fail
  refine HDC.out.mono ?_
  rintro e w1 ⟨lo, lc, rfl, hp, hb⟩
  have Y1 : Hid (Below W0.heap.size W0 w1) := hb
  clear hb hp c0 c1 c2 c3 c4 l0
  obtain ⟨W2, hW2⟩ : ∃ W2, w1.alloc (.cells #[.int .i64 0, .slice lo 0 lc] 46) = W2 := ⟨_, rfl⟩
  have HW2 : Hid (w1.alloc (.cells #[.int .i64 0, .slice lo 0 lc] 46) = W2) := hW2
  have b2 : Below w1.heap.size w1 W2 := by rw [← hW2]; exact (Below.refl _ _).alloc (Nat.le_refl _) _
  have k2 : W2.heap[w1.heap.size]? = some (.cells #[.int .i64 0, .slice lo 0 lc] 46) := by rw [← hW2]; exact heap_new _ _
  have HX2 : Hid (∀ wx, Below W2.heap.size W2 wx → (wx.cell? ⟨w1.heap.size, 0, none⟩ = some (.int .i64 0) ∧ wx.cell? ⟨w1.heap.size, 1, none⟩ = some (.slice lo 0 lc)) ∧ w1.heap.size < wx.heap.size ∧ Below W0.heap.size W0 wx ∧ Below w1.heap.size w1 wx) := fun wx hb => by
    have q := (hb.block _ (w_lt_get k2)).trans k2
    exact ⟨⟨(cell2I q).1, (cell2I q).2.1⟩, w_lt_get q, btrI Y1.out (btrI b2 hb), btrI b2 hb⟩
  clear hW2 b2 k2
  obtain ⟨⟨e0, e1⟩, es, _⟩ := HX2.out W2 (Below.refl _ _)
  go_upto_region 2 with fail
  rw [HW2.out]
  go_wp2_with fail
  refine (HBAD.out lo lc W2).mono ?_
  rintro e w3 ⟨rfl, hb⟩
  have Y3 : Hid (Below W0.heap.size W0 w3) := (HX2.out w3 hb).2.2.1
  clear hb e0 e1 es
  obtain ⟨⟨c0, c1, c2, c3, c4⟩, l0, _⟩ := HX.out w3 Y3.out
  go_wp2_with fail
  refine (HRW.out w3 Y3.out).mono ?_
  rintro e w4 ⟨o4, d4, rfl, ho, hb⟩
  have Y4 : Hid (Below W0.heap.size W0 w4) := btrI Y3.out hb
  have HO : Hid (w4.ownsRow w3.heap.size 5 1 (.slice o4 Bq.length d4) Bq.length (bv Bq) ∧ w.heap.size + 1 < w3.heap.size) := ⟨ho, w_lt_get (HX.out w3 Y3.out).2.2.2.2⟩
  clear ho hb c0 c1 c2 c3 c4 l0
  obtain ⟨_, _, hbx, _, hz⟩ := HX.out w4 Y4.out
  obtain ⟨r0, r1, f0, f1⟩ := cell2I hz
  have rs := w_lt_get hz
  have HZ : Hid (w4.heap[w.heap.size + 1]? = some (.cells #[.int .i64 0, .slice none 0 0] 46 (0, 0)) ∧ Below w.heap.size w w4) := ⟨hz, hbx⟩
  clear hbx hz
  go_wp2
  obtain ⟨z1, z2⟩ := HZ.out
  have y1 := set2I (v0 := .int .i64 0) (v1 := .slice none 0 0) z1
  have y2 : Below w.heap.size w ((World.setCell w4 ⟨w.heap.size + 1, 0, none⟩ (.int .i64 0)).setCell ⟨w.heap.size + 1, 1, none⟩ (.slice none 0 0)) := z2.trans (below2I (by omega))
  have y3 : ((World.setCell w4 ⟨w.heap.size + 1, 0, none⟩ (.int .i64 0)).setCell ⟨w.heap.size + 1, 1, none⟩ (.slice none 0 0)).ownsRow w3.heap.size 5 1 (.slice o4 Bq.length d4) Bq.length (bv Bq) := bown_keep HO.out.1 (fun k hk => other2I (by have := (HO.out.1.lt k hk).1; have := HO.out.2; omega))
  generalize ((World.setCell w4 ⟨w.heap.size + 1, 0, none⟩ (.int .i64 0)).setCell ⟨w.heap.size + 1, 1, none⟩ (.slice none 0 0)) = Wf at *
  obtain ⟨u0, u1, _, _⟩ := cell2I y1
  exact bodyPost_ret (v := .tuple #[.slice o4 Bq.length d4, .agg #[.int .i64 0, .slice none 0 0]]) (by simp [results, Tryz.results12, go_sem, u0, u1]) rfl ⟨o4, d4, rfl, hasB_own y3, y2⟩
end Go.Proofs.YtamedcnjanichabGreatDoor
