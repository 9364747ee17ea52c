/- image: the words and the bytes of a hierarchy; withLinks, sizeOf, wordsOf. viaductref19: head, links, Raw. image: wordsOf, Encode, Size. image.Encode, Size; viaductref19's Raw, DocEncode, DocSize. (Printed by geniid.py.) viaductref19's DocEncode, DocSize. (Printed by geniie.py.) -/
import Derived.Test.YtamedcnjanichaaDoorWrX
import Derived.Test.YtamedcnjanichaaDoorHrI
import Derived.Test.YtamedcnjanichaaDoorHsA
import Derived.Test.YtamedcnjanichaaDoorCrX
import Derived.Deep.RegionHeld3
import Derived.Test.YtamedcnjanichaaDoorHrJ
import Derived.Test.YtamedcnjanichaaDoorHdX
namespace Go.Proofs.YtamedcnjanichaaDoor
open Go.RowKit Go.Extern Cr

attribute [local go_sem] Oper.semAt_some

/-- the words of a link, of links, of a hierarchy. -/
def lkW (l : Hi.Lk) : List Nat := [l.hd, l.lf, l.rt, l.wt % 4294967296, l.wt / 4294967296]
def lksW (L : List Hi.Lk) : List Nat := L.flatMap lkW
def imW (h : Hi.Hr) : List Nat := [h.node.length, h.up.length, h.dn.length] ++ h.node ++ h.upF ++ lksW h.up ++ h.dnF ++ lksW h.dn
def head8 : List Nat := [86, 68, 67, 84, 1, 0, 0, 0]
/-- the bytes ahead of the sum, and all of them. -/
def imP (h : Hi.Hr) : List Nat := head8 ++ bytesOf (imW h)
def imB (h : Hi.Hr) : List Nat := sealOf (imP h)
theorem lksW_len : ∀ L : List Hi.Lk, (lksW L).length = 5 * L.length
  | [] => rfl
  | a :: r => by
    have ih := lksW_len r
    unfold lksW at ih ⊢
    rw [List.flatMap_cons, List.length_append, ih, List.length_cons]
    show 5 + 5 * r.length = _
    omega
theorem lksW_snoc (L : List Hi.Lk) (l : Hi.Lk) : lksW (L ++ [l]) = lksW L ++ lkW l := by unfold lksW; simp
theorem lkW_ok {l : Hi.Lk} (h : l.ok) : ∀ x ∈ lkW l, x < 4294967296 := by
  obtain ⟨h1, h2, h3, h4⟩ := h
  intro x hx
  simp only [lkW, List.mem_cons, List.not_mem_nil, or_false] at hx
  rcases hx with rfl | rfl | rfl | rfl | rfl
  · exact h1
  · exact h3
  · exact h4
  · omega
  · omega
theorem lksW_ok {L : List Hi.Lk} (h : ∀ l ∈ L, l.ok) : ∀ x ∈ lksW L, x < 4294967296 := by
  intro x hx
  obtain ⟨l, hl, hx⟩ := List.mem_flatMap.1 hx
  exact lkW_ok (h l hl) x hx
theorem imW_len (h : Hi.Hr) : (imW h).length = 3 + h.node.length + h.upF.length + 5 * h.up.length + h.dnF.length + 5 * h.dn.length := by
  unfold imW
  simp only [List.length_append, lksW_len, List.length_cons, List.length_nil]
/-- the counts of a hierarchy are within the limits. -/
structure SmallH (h : Hi.Hr) : Prop where
  n : h.node.length ≤ 65536
  u : h.up.length ≤ 1048576
  d : h.dn.length ≤ 1048576
  uf : h.upF.length = h.node.length + 1
  df : h.dnF.length = h.node.length + 1
theorem small_of_chk {h : Hi.Hr} (hc : Hi.chk h = (0, [])) : SmallH h := by
  obtain ⟨h1, h2, h3, h4, _⟩ := Hi.chk_ok hc
  exact ⟨h1, by omega, by omega, h3, h4⟩
theorem hasW_ws {w : World} {v : Value} {l : List Nat} (h : Hi.HasWs w v l) : HasW w v l := by
  obtain ⟨ao, cap, e, _, hc⟩ := h
  exact ⟨ao, cap, e, fun j a hj => (hc j a hj).2⟩
theorem imW_ok {w : World} {v : Hi.HV} {h : Hi.Hr} (hs : SmallH h) (hH : Hi.HasH w v h) : ∀ x ∈ imW h, x < 4294967296 := by
  have := hs.n
  have := hs.u
  have := hs.d
  intro x hx
  unfold imW at hx
  simp only [List.mem_append, List.mem_cons, List.not_mem_nil, or_false] at hx
  rcases hx with (((((rfl | rfl | rfl) | hx) | hx) | hx) | hx) | hx
  · omega
  · omega
  · omega
  · exact Hi.HasWs.ok hH.node x hx
  · exact Hi.HasWs.ok hH.upF x hx
  · refine lksW_ok (fun l hl => ?_) x hx
    obtain ⟨j, hj⟩ := List.getElem?_of_mem hl
    exact (hH.up.at hj).1
  · exact Hi.HasWs.ok hH.dnF x hx
  · refine lksW_ok (fun l hl => ?_) x hx
    obtain ⟨j, hj⟩ := List.getElem?_of_mem hl
    exact (hH.dn.at hj).1

theorem hasW_lit (w : World) (l : List Nat) (T : TypeId) : HasW (w.alloc (.cells (wv l).toArray T)) (.slice (some ⟨w.heap.size, 0, none⟩) l.length l.length) l := by
  have h : (w.alloc (.cells (wv l).toArray T)).heap[w.heap.size]? = some (.cells (wv l).toArray T) := heap_new _ _
  generalize w.alloc (.cells (wv l).toArray T) = W at h ⊢
  refine ⟨_, _, rfl, fun j a hj => ⟨_, 0, rfl, w_lt_get h, ?_⟩⟩
  simp [World.cell?, h, wv, hj]

theorem sizeOf_calls (n u d : Nat) (hn : n ≤ 4294967296) (hu : u ≤ 4294967296) (hd : d ≤ 4294967296) (w : World) : Calls Tryd.prog 27 #[.int .i64 (n : Int), .int .i64 (u : Int), .int .i64 (d : Int)] w fun e w' => e = .returned (.int .i64 ((32 + 12 * n + 20 * (u + d) : Nat) : Int)) ∧ w' = w := by
  go_enter Tryd.func27, Tryd.ntmps27
  go_wp2
  go_ret
  exact ⟨by go_num, rfl⟩

set_option maxRecDepth 100000 in
set_option maxHeartbeats 2000000 in
theorem withLinks_calls (base : Nat) (lo : Option Addr) (lc : Nat) (L : List Nat) (so : Option Addr) (sc : Nat) (ls : List Hi.Lk) (w : World) (hown : w.ownsRow base 42 1 (.slice lo L.length lc) L.length (wv L)) (hl : ∀ wx, Below base w wx → Hi.HasLs wx (.slice so ls.length sc) ls) (hb : base ≤ w.heap.size) (hL : L.length ≤ 1073741824) (hls : ls.length ≤ 1048576) :
    Calls Tryd.prog 48 #[.slice lo L.length lc, .slice so ls.length sc] w fun e w' => ∃ mo mc, e = .returned (.slice mo (L ++ lksW ls).length mc) ∧ w'.ownsRow base 42 1 (.slice mo (L ++ lksW ls).length mc) (L ++ lksW ls).length (wv (L ++ lksW ls)) ∧ Below base w w' := by
  have HL : Hid (∀ wx, Below base w wx → Hi.HasLs wx (.slice so ls.length sc) ls) := hl
  have HO : Hid (w.ownsRow base 42 1 (.slice lo L.length lc) L.length (wv L)) := hown
  have HBS : Hid (base ≤ w.heap.size) := hb
  clear hl hown
  go_enter Tryd.func48, Tryd.ntmps48
  go_wp2_with fail
  go_loopw [0, 9] (fun mv nv wr => ∃ (k : Nat) (qo : Option Addr) (qc : Nat), k ≤ ls.length ∧ nv = .int .i64 (k : Nat) ∧ mv = .slice qo (L ++ lksW (ls.take k)).length qc ∧ wr.ownsRow base 42 1 (.slice qo (L ++ lksW (ls.take k)).length qc) (L ++ lksW (ls.take k)).length (wv (L ++ lksW (ls.take k))) ∧ Below base w wr) (fun _ nv _ => ls.length - (intOf nv).toNat)
  case atStart => exact ⟨0, lo, lc, Nat.zero_le _, rfl, by simp [lksW], by simpa [lksW] using HO.out, Below.refl _ _⟩
  case round =>
    obtain ⟨k, qo, qc, hk, rfl, rfl, hO, hB⟩ := hrel
    by_cases hlt : k < ls.length
    · obtain ⟨a, ha⟩ : ∃ a, ls[k]? = some a := ⟨ls[k], List.getElem?_eq_getElem hlt⟩
      obtain ⟨hok, b, off, rfl, bl, c0, c1, c2, c3⟩ := (HL.out wr hB).at ha
      have hT : L ++ lksW (ls.take (k + 1)) = L ++ lksW (ls.take k) ++ lkW a := by rw [List.take_add_one, ha, Option.toList_some, lksW_snoc, List.append_assoc]
      have hle : (L ++ lksW (ls.take k)).length ≤ 2147483648 := by rw [List.length_append, lksW_len, List.length_take]; omega
      obtain ⟨M, hM⟩ : ∃ M, L ++ lksW (ls.take k) = M := ⟨_, rfl⟩
      rw [hM] at hO hT hle
      rw [hM]
      have HT : Hid (L ++ lksW (ls.take (k + 1)) = M ++ lkW a) := hT
      obtain ⟨ah, aw, al, ar⟩ := a
      simp only at c0 c1 c2 c3
      obtain ⟨k1, k2, k3, k4⟩ := hok
      simp only at k1 k2 k3 k4
      obtain ⟨Wa, hWa⟩ : ∃ Wa, wr.alloc (.cells #[.int .u32 (ah : Int), .int .u64 (aw : Int), .int .u32 (al : Int), .int .u32 (ar : Int)] 61) = Wa := ⟨_, rfl⟩
      have HWA : Hid (wr.alloc (.cells #[.int .u32 (ah : Int), .int .u64 (aw : Int), .int .u32 (al : Int), .int .u32 (ar : Int)] 61) = Wa) := hWa
      have bWa : Below wr.heap.size wr Wa := by rw [← hWa]; exact (Below.refl _ _).alloc (Nat.le_refl _) _
      have hnew : Wa.heap[wr.heap.size]? = some (.cells #[.int .u32 (ah : Int), .int .u64 (aw : Int), .int .u32 (al : Int), .int .u32 (ar : Int)] 61) := by rw [← hWa]; exact heap_new _ _
      have HOA : Hid ((Wa.alloc (.cells #[.int .u32 (ah : Int), .int .u32 (al : Int), .int .u32 (ar : Int), .int .u32 ((aw : Int) % 4294967296), .int .u32 ((aw : Int) / 4294967296)] 42)).ownsRow base 42 1 (.slice qo M.length qc) M.length (wv M) ∧ base ≤ (Wa.alloc (.cells #[.int .u32 (ah : Int), .int .u32 (al : Int), .int .u32 (ar : Int), .int .u32 ((aw : Int) % 4294967296), .int .u32 ((aw : Int) / 4294967296)] 42)).heap.size ∧ Below base w (Wa.alloc (.cells #[.int .u32 (ah : Int), .int .u32 (al : Int), .int .u32 (ar : Int), .int .u32 ((aw : Int) % 4294967296), .int .u32 ((aw : Int) / 4294967296)] 42))) := by
        have b2 : Below wr.heap.size wr (Wa.alloc (.cells #[.int .u32 (ah : Int), .int .u32 (al : Int), .int .u32 (ar : Int), .int .u32 ((aw : Int) % 4294967296), .int .u32 ((aw : Int) / 4294967296)] 42)) := bWa.alloc bWa.size _
        exact ⟨wown_below hO b2, Nat.le_trans (Nat.le_trans HBS.out hB.size) b2.size, hB.trans (b2.mono (Nat.le_trans HBS.out hB.size))⟩
      have HON : Hid (HasW (Wa.alloc (.cells #[.int .u32 (ah : Int), .int .u32 (al : Int), .int .u32 (ar : Int), .int .u32 ((aw : Int) % 4294967296), .int .u32 ((aw : Int) / 4294967296)] 42)) (.slice (some ⟨Wa.heap.size, 0, none⟩) 5 5) (lkW ⟨ah, aw, al, ar⟩)) := by
        have q := hasW_lit Wa (lkW ⟨ah, aw, al, ar⟩) 42
        rw [show (wv (lkW ⟨ah, aw, al, ar⟩)).toArray = #[.int .u32 (ah : Int), .int .u32 (al : Int), .int .u32 (ar : Int), .int .u32 ((aw : Int) % 4294967296), .int .u32 ((aw : Int) / 4294967296)] by simp [wv, lkW]] at q
        exact q
      have n0 : Wa.cell? ⟨wr.heap.size, 0, none⟩ = some (.int .u32 (ah : Int)) := by simp [World.cell?, hnew]
      have n1 : Wa.cell? ⟨wr.heap.size, 1, none⟩ = some (.int .u64 (aw : Int)) := by simp [World.cell?, hnew]
      have n2 : Wa.cell? ⟨wr.heap.size, 2, none⟩ = some (.int .u32 (al : Int)) := by simp [World.cell?, hnew]
      have n3 : Wa.cell? ⟨wr.heap.size, 3, none⟩ = some (.int .u32 (ar : Int)) := by simp [World.cell?, hnew]
      have ns : wr.heap.size < Wa.heap.size := w_lt_get hnew
      have i1 : (k : Int) < (ls.length : Int) := by omega
      have i2 : (0 : Int) ≤ (k : Int) := by omega
      clear ha hO hB hT hM hWa bWa hnew
      go_upto_region 4 with fail
      rw [HWA.out]
      go_wp2_with (at_builtin; refine wpList_append_W rfl _ _ rfl base (.slice qo M.length qc) M rfl HOA.out.1 (some ⟨Wa.heap.size, 0, none⟩) 5 (lkW ⟨ah, aw, al, ar⟩) rfl HON.out (fun e => by cases e) (by simp only [lkW, List.length_cons, List.length_nil]; omega) HOA.out.2.1 ?_; intro v' w' hown hgr; obtain ⟨ro, rc, hv⟩ := wown_slice hown; subst hv; have Y : Hid (w'.ownsRow base 42 1 (.slice ro (M ++ lkW ⟨ah, aw, al, ar⟩).length rc) (M ++ lkW ⟨ah, aw, al, ar⟩).length (wv (M ++ lkW ⟨ah, aw, al, ar⟩)) ∧ Below base w w') := ⟨hown, wbelow_grown HOA.out.2.2 HOA.out.1 hgr HOA.out.2.1⟩; clear hown hgr; generalize M ++ lkW ⟨ah, aw, al, ar⟩ = M2 at *)
      go_roundw
      case rel => exact ⟨k + 1, ro, rc, by omega, by go_num, by rw [HT.out], by rw [HT.out]; exact Y.out.1, Y.out.2⟩
      case measure => simp [intOf]; omega
    · obtain rfl : k = ls.length := by omega
      rw [List.take_length] at hO ⊢
      have HE : Hid (wr.ownsRow base 42 1 (.slice qo (L ++ lksW ls).length qc) (L ++ lksW ls).length (wv (L ++ lksW ls)) ∧ Below base w wr) := ⟨hO, hB⟩
      clear hO hB
      go_wp2_with fail
      go_ret
      exact ⟨qo, qc, rfl, HE.out.1, HE.out.2⟩
end Go.Proofs.YtamedcnjanichaaDoor

namespace Go.Proofs.YtamedcnjanichaaDoor
open Go.RowKit Go.Extern Cr

attribute [local go_sem] Oper.semAt_some

theorem leN_eight (v : Nat) : leN v 8 = leN (v % 4294967296) 4 ++ leN (v / 4294967296) 4 := by
  simp only [leN, List.cons_append, List.nil_append, List.cons.injEq, and_true]
  refine ⟨?_, ?_, ?_, ?_, ?_, ?_, ?_, ?_⟩ <;> omega
theorem bytesOf_append (a b : List Nat) : bytesOf (a ++ b) = bytesOf a ++ bytesOf b := by unfold bytesOf; rw [List.flatMap_append]
theorem bytesOf_lk (l : Hi.Lk) : bytesOf (lkW l) = leN l.hd 4 ++ leN l.lf 4 ++ leN l.rt 4 ++ leN l.wt 8 := by
  rw [leN_eight]
  simp [bytesOf, lkW]
theorem head_bts : Bts head8 := bts_of (by decide)
theorem imP_bts (h : Hi.Hr) : Bts (imP h) := head_bts.app (bytesOf_bts _)
theorem imP_len (h : Hi.Hr) : (imP h).length = 8 + 4 * (imW h).length := by
  unfold imP
  rw [List.length_append, bytesOf_len]
  rfl
theorem jHead_calls (w : World) : Calls Tryd.prog 42 #[] w fun e w' => ∃ mo mc, e = .returned (.slice mo 8 mc) ∧ w'.ownsRow w.heap.size 5 1 (.slice mo 8 mc) 8 (bv head8) ∧ Below w.heap.size w w' := by
  have H : Hid ((w.alloc (.cells (bv head8).toArray 5)).ownsRow w.heap.size 5 1 (.slice (some ⟨w.heap.size, 0, none⟩) 8 8) 8 (bv head8) ∧ Below w.heap.size w (w.alloc (.cells (bv head8).toArray 5))) :=
    ⟨by have h := World.ownsRow_lit (base := w.heap.size) (e := 5) (size := 1) w (bv head8).toArray 8 (Nat.le_refl _) (by decide) (by simp [bv, head8]); simpa using h, (Below.refl _ _).alloc (Nat.le_refl _) _⟩
  go_enter Tryd.func42, Tryd.ntmps42
  go_wp2
  go_ret
  exact ⟨_, _, rfl, H.out.1, H.out.2⟩
theorem own_nil {w : World} {B n cap : Nat} {ao : Option Addr} {xs : List Value} (h : w.ownsRow B 5 1 (.slice ao n cap) n xs) : ao = none → cap = 0 := by
  rcases h.2 with ⟨e, _⟩ | ⟨g, c, cur, e, _⟩
  · intro _; injection e
  · intro h0; rw [h0] at e; cases e

set_option maxRecDepth 100000 in
set_option maxHeartbeats 2000000 in
theorem jLinks_calls (lo : Option Addr) (lc : Nat) (L : List Nat) (so : Option Addr) (sc : Nat) (ls : List Hi.Lk) (w : World) (hB : HasB w (.slice lo L.length lc) L) (hn : lo = none → lc = 0) (hl : Hi.HasLs w (.slice so ls.length sc) ls) (hL : L.length ≤ 1073741824) (hls : ls.length ≤ 1048576) :
    Calls Tryd.prog 43 #[.slice lo L.length lc, .slice so ls.length sc] w fun e w' => ∃ mo mc, e = .returned (.slice mo (L ++ bytesOf (lksW ls)).length mc) ∧ HasB w' (.slice mo (L ++ bytesOf (lksW ls)).length mc) (L ++ bytesOf (lksW ls)) ∧ (mo = none → mc = 0) ∧ Below w.heap.size w w' := by
  have HL : Hid (∀ wx, Below w.heap.size w wx → Hi.HasLs wx (.slice so ls.length sc) ls) := fun wx h => hl.keep h
  have H0 : Hid (HasB w (.slice lo L.length lc) L ∧ (lo = none → lc = 0)) := ⟨hB, hn⟩
  clear hl hB hn
  go_enter Tryd.func43, Tryd.ntmps43
  go_wp2_with fail
  go_loopw [0, 9] (fun mv nv wr => ∃ (k : Nat) (qo : Option Addr) (qc : Nat), k ≤ ls.length ∧ nv = .int .i64 (k : Nat) ∧ mv = .slice qo (L ++ bytesOf (lksW (ls.take k))).length qc ∧ HasB wr (.slice qo (L ++ bytesOf (lksW (ls.take k))).length qc) (L ++ bytesOf (lksW (ls.take k))) ∧ (qo = none → qc = 0) ∧ Below w.heap.size w wr) (fun _ nv _ => ls.length - (intOf nv).toNat)
  case atStart => exact ⟨0, lo, lc, Nat.zero_le _, rfl, by simp [lksW, bytesOf], by simpa [lksW, bytesOf] using H0.out.1, H0.out.2, Below.refl _ _⟩
  case round =>
    obtain ⟨k, qo, qc, hk, rfl, rfl, hO, hq, hBw⟩ := hrel
    by_cases hlt : k < ls.length
    · obtain ⟨a, ha⟩ : ∃ a, ls[k]? = some a := ⟨ls[k], List.getElem?_eq_getElem hlt⟩
      obtain ⟨hok, b, off, rfl, bl, c0, c1, c2, c3⟩ := (HL.out wr hBw).at ha
      have hT : L ++ bytesOf (lksW (ls.take (k + 1))) = L ++ bytesOf (lksW (ls.take k)) ++ leN a.hd 4 ++ leN a.lf 4 ++ leN a.rt 4 ++ leN a.wt 8 := by rw [List.take_add_one, ha, Option.toList_some, lksW_snoc, bytesOf_append, bytesOf_lk]; simp only [List.append_assoc]
      have hle : (L ++ bytesOf (lksW (ls.take k))).length ≤ 2147483648 := by rw [List.length_append, bytesOf_len, lksW_len, List.length_take]; omega
      obtain ⟨M, hM⟩ : ∃ M, L ++ bytesOf (lksW (ls.take k)) = M := ⟨_, rfl⟩
      rw [hM] at hO hT hle
      rw [hM]
      obtain ⟨ah, aw, al, ar⟩ := a
      simp only at c0 c1 c2 c3 hT
      obtain ⟨k1, k2, k3, k4⟩ := hok
      simp only at k1 k2 k3 k4
      have l1 : (M ++ leN ah 4).length = M.length + 4 := by rw [List.length_append, leN_len]
      have l2 : (M ++ leN ah 4 ++ leN al 4).length = M.length + 4 + 4 := by rw [List.length_append, leN_len, l1]
      have l3 : (M ++ leN ah 4 ++ leN al 4 ++ leN ar 4).length = M.length + 4 + 4 + 4 := by rw [List.length_append, leN_len, l2]
      have l4 : (M ++ leN ah 4 ++ leN al 4 ++ leN ar 4 ++ leN aw 8).length = M.length + 4 + 4 + 4 + 8 := by rw [List.length_append, leN_len, l3]
      obtain ⟨M1, hM1⟩ : ∃ M1, M ++ leN ah 4 = M1 := ⟨_, rfl⟩
      rw [hM1] at l1 l2 l3 l4 hT
      obtain ⟨M2, hM2⟩ : ∃ M2, M1 ++ leN al 4 = M2 := ⟨_, rfl⟩
      rw [hM2] at l2 l3 l4 hT
      obtain ⟨M3, hM3⟩ : ∃ M3, M2 ++ leN ar 4 = M3 := ⟨_, rfl⟩
      rw [hM3] at l3 l4 hT
      obtain ⟨M4, hM4⟩ : ∃ M4, M3 ++ leN aw 8 = M4 := ⟨_, rfl⟩
      rw [hM4] at l4 hT
      have HT : Hid (L ++ bytesOf (lksW (ls.take (k + 1))) = M4) := hT
      have HLN : Hid (M1.length = M.length + 4 ∧ M2.length = M.length + 4 + 4 ∧ M3.length = M.length + 4 + 4 + 4 ∧ M4.length = M.length + 4 + 4 + 4 + 8) := ⟨l1, l2, l3, l4⟩
      have P1 : Hid (∀ (lo : Option Addr) (lc : Nat) (wx : World), HasB wx (.slice lo M.length lc) M → (lo = none → lc = 0) → Calls Tryd.prog 66 #[.slice lo M.length lc, .int .u64 (ah : Int), .int .i64 4] wx fun e w' => ∃ mo mc, e = .returned (.slice mo M1.length mc) ∧ (HasB w' (.slice mo M1.length mc) M1 ∧ (mo = none → mc = 0)) ∧ Below wx.heap.size wx w') := fun lo lc wx h1 h2 => by
        refine (vPut_calls lo lc M ah 4 (by omega) wx h1 (by omega) h2 (by omega)).mono ?_
        rintro e w' ⟨mo, mc, rfl, ho, hb⟩
        rw [hM1, ← l1] at ho
        rw [← l1]
        exact ⟨mo, mc, rfl, ⟨hasB_own ho, own_nil ho⟩, hb⟩
      have P2 : Hid (∀ (lo : Option Addr) (lc : Nat) (wx : World), HasB wx (.slice lo M1.length lc) M1 → (lo = none → lc = 0) → Calls Tryd.prog 66 #[.slice lo M1.length lc, .int .u64 (al : Int), .int .i64 4] wx fun e w' => ∃ mo mc, e = .returned (.slice mo M2.length mc) ∧ (HasB w' (.slice mo M2.length mc) M2 ∧ (mo = none → mc = 0)) ∧ Below wx.heap.size wx w') := fun lo lc wx h1 h2 => by
        refine (vPut_calls lo lc M1 al 4 (by omega) wx h1 (by omega) h2 (by omega)).mono ?_
        rintro e w' ⟨mo, mc, rfl, ho, hb⟩
        have e9 : M1.length + 4 = M2.length := by omega
        rw [hM2, e9] at ho
        rw [e9]
        exact ⟨mo, mc, rfl, ⟨hasB_own ho, own_nil ho⟩, hb⟩
      have P3 : Hid (∀ (lo : Option Addr) (lc : Nat) (wx : World), HasB wx (.slice lo M2.length lc) M2 → (lo = none → lc = 0) → Calls Tryd.prog 66 #[.slice lo M2.length lc, .int .u64 (ar : Int), .int .i64 4] wx fun e w' => ∃ mo mc, e = .returned (.slice mo M3.length mc) ∧ (HasB w' (.slice mo M3.length mc) M3 ∧ (mo = none → mc = 0)) ∧ Below wx.heap.size wx w') := fun lo lc wx h1 h2 => by
        refine (vPut_calls lo lc M2 ar 4 (by omega) wx h1 (by omega) h2 (by omega)).mono ?_
        rintro e w' ⟨mo, mc, rfl, ho, hb⟩
        have e9 : M2.length + 4 = M3.length := by omega
        rw [hM3, e9] at ho
        rw [e9]
        exact ⟨mo, mc, rfl, ⟨hasB_own ho, own_nil ho⟩, hb⟩
      have P4 : Hid (∀ (lo : Option Addr) (lc : Nat) (wx : World), HasB wx (.slice lo M3.length lc) M3 → (lo = none → lc = 0) → Calls Tryd.prog 66 #[.slice lo M3.length lc, .int .u64 (aw : Int), .int .i64 8] wx fun e w' => ∃ mo mc, e = .returned (.slice mo M4.length mc) ∧ (HasB w' (.slice mo M4.length mc) M4 ∧ (mo = none → mc = 0)) ∧ Below wx.heap.size wx w') := fun lo lc wx h1 h2 => by
        refine (vPut_calls lo lc M3 aw 8 k2 wx h1 (by omega) h2 (by omega)).mono ?_
        rintro e w' ⟨mo, mc, rfl, ho, hb⟩
        have e9 : M3.length + 8 = M4.length := by omega
        rw [hM4, e9] at ho
        rw [e9]
        exact ⟨mo, mc, rfl, ⟨hasB_own ho, own_nil ho⟩, hb⟩
      obtain ⟨Wa, hWa⟩ : ∃ Wa, wr.alloc (.cells #[.int .u32 (ah : Int), .int .u64 (aw : Int), .int .u32 (al : Int), .int .u32 (ar : Int)] 61) = Wa := ⟨_, rfl⟩
      have HWA : Hid (wr.alloc (.cells #[.int .u32 (ah : Int), .int .u64 (aw : Int), .int .u32 (al : Int), .int .u32 (ar : Int)] 61) = Wa) := hWa
      have bWa : Below wr.heap.size wr Wa := by rw [← hWa]; exact (Below.refl _ _).alloc (Nat.le_refl _) _
      have hnew : Wa.heap[wr.heap.size]? = some (.cells #[.int .u32 (ah : Int), .int .u64 (aw : Int), .int .u32 (al : Int), .int .u32 (ar : Int)] 61) := by rw [← hWa]; exact heap_new _ _
      have HX : Hid (∀ wx, Below Wa.heap.size Wa wx → (wx.cell? ⟨wr.heap.size, 0, none⟩ = some (.int .u32 (ah : Int)) ∧ wx.cell? ⟨wr.heap.size, 1, none⟩ = some (.int .u64 (aw : Int)) ∧ wx.cell? ⟨wr.heap.size, 2, none⟩ = some (.int .u32 (al : Int)) ∧ wx.cell? ⟨wr.heap.size, 3, none⟩ = some (.int .u32 (ar : Int))) ∧ wr.heap.size < wx.heap.size ∧ Below w.heap.size w wx) := fun wx hb => by
        have q := (hb.block _ (w_lt_get hnew)).trans hnew
        refine ⟨⟨?_, ?_, ?_, ?_⟩, w_lt_get q, (hBw.trans (bWa.mono hBw.size)).trans (hb.mono (Nat.le_trans hBw.size bWa.size))⟩ <;> simp [World.cell?, q]
      have HOA : Hid (HasB Wa (.slice qo M.length qc) M ∧ (qo = none → qc = 0)) := ⟨hO.keep bWa, hq⟩
      obtain ⟨⟨n0, n1, n2, n3⟩, ns, _⟩ := HX.out Wa (Below.refl _ _)
      have i1 : (k : Int) < (ls.length : Int) := by omega
      have i2 : (0 : Int) ≤ (k : Int) := by omega
      clear ha hO hBw hq hT hM hWa bWa hnew l1 l2 l3 l4 hM1 hM2 hM3 hM4
      go_upto_region 4 with fail
      rw [HWA.out]
      go_wp2_with fail
      refine (P1.out _ _ Wa HOA.out.1 HOA.out.2).mono ?_
      rintro e w1 ⟨o1, d1, rfl, hh, hb⟩
      have Y1 : Hid (Below Wa.heap.size Wa w1 ∧ HasB w1 (.slice o1 M1.length d1) M1 ∧ (o1 = none → d1 = 0)) := ⟨hb, hh⟩
      clear hh hb n0 n1 n2 n3 ns
      obtain ⟨⟨n0, n1, n2, n3⟩, ns, _⟩ := HX.out w1 Y1.out.1
      go_wp2_with fail
      refine (P2.out _ _ w1 Y1.out.2.1 Y1.out.2.2).mono ?_
      rintro e w2 ⟨o2, d2, rfl, hh, hb⟩
      have Y2 : Hid (Below Wa.heap.size Wa w2 ∧ HasB w2 (.slice o2 M2.length d2) M2 ∧ (o2 = none → d2 = 0)) := ⟨Y1.out.1.trans (hb.mono Y1.out.1.size), hh⟩
      clear hh hb n0 n1 n2 n3 ns
      obtain ⟨⟨n0, n1, n2, n3⟩, ns, _⟩ := HX.out w2 Y2.out.1
      go_wp2_with fail
      refine (P3.out _ _ w2 Y2.out.2.1 Y2.out.2.2).mono ?_
      rintro e w3 ⟨o3, d3, rfl, hh, hb⟩
      have Y3 : Hid (Below Wa.heap.size Wa w3 ∧ HasB w3 (.slice o3 M3.length d3) M3 ∧ (o3 = none → d3 = 0)) := ⟨Y2.out.1.trans (hb.mono Y2.out.1.size), hh⟩
      clear hh hb n0 n1 n2 n3 ns
      obtain ⟨⟨n0, n1, n2, n3⟩, ns, _⟩ := HX.out w3 Y3.out.1
      go_wp2_with fail
      refine (P4.out _ _ w3 Y3.out.2.1 Y3.out.2.2).mono ?_
      rintro e w4 ⟨o4, d4, rfl, hh, hb⟩
      have Y4 : Hid (Below w.heap.size w w4 ∧ HasB w4 (.slice o4 M4.length d4) M4 ∧ (o4 = none → d4 = 0)) := ⟨(HX.out w4 (Y3.out.1.trans (hb.mono Y3.out.1.size))).2.2, hh⟩
      clear hh hb n0 n1 n2 n3 ns
      go_wp2
      go_roundw
      case rel => exact ⟨k + 1, o4, d4, by omega, by go_num, by rw [HT.out], by rw [HT.out]; exact Y4.out.2.1, Y4.out.2.2, Y4.out.1⟩
      case measure => simp [intOf]; omega
    · obtain rfl : k = ls.length := by omega
      rw [List.take_length] at hO ⊢
      have HE : Hid (HasB wr (.slice qo (L ++ bytesOf (lksW ls)).length qc) (L ++ bytesOf (lksW ls)) ∧ (qo = none → qc = 0) ∧ Below w.heap.size w wr) := ⟨hO, hq, hBw⟩
      clear hO hq hBw
      go_wp2_with fail
      go_ret
      exact ⟨qo, qc, rfl, HE.out.1, HE.out.2.1, HE.out.2.2⟩
end Go.Proofs.YtamedcnjanichaaDoor

namespace Go.Proofs.YtamedcnjanichaaDoor
open Go.RowKit Go.Extern Cr

attribute [local go_sem] Oper.semAt_some

/-- what is nil has no room. -/
structure NilH (v : Hi.HV) : Prop where
  n : v.no = none → v.nc = 0
  u : v.uo = none → v.uc = 0
  d : v.wo = none → v.wc = 0
theorem make_wsI (n : Nat) (hn : n ≤ 1073741824) : ∃ cs : Array Value, cs.size = n * 1 ∧ ∀ w, (Instr.makeSlice 22 (.int .i64 0) (.int .i64 (n : Int))).run Tryd.prog w = .ok (.slice (some ⟨w.heap.size, 0, none⟩) 0 n) (w.alloc (.cells cs 42)) := by
  obtain ⟨i, hi, hz, hs, hb⟩ := infoW
  refine ⟨madeCells #[.int .u32 0] (n * 1), by simp [size_madeCells], fun w => ?_⟩
  have hr := run_make (P := Tryd.prog) w 22 42 i _ Tryd.underlying22 hi hz .i64 .i64 0 n (by omega) (by omega) (by rw [hb]; omega) (by omega)
  simp only [Int.toNat_natCast, hs] at hr
  rw [hr]
  rfl
theorem cells5 {W : World} {b : Nat} {T : TypeId} {a0 a1 a2 a3 a4 : Value} (h : W.heap[b]? = some (.cells #[a0, a1, a2, a3, a4] T)) : W.cell? ⟨b, 0, none⟩ = some a0 ∧ W.cell? ⟨b, 1, none⟩ = some a1 ∧ W.cell? ⟨b, 2, none⟩ = some a2 ∧ W.cell? ⟨b, 3, none⟩ = some a3 ∧ W.cell? ⟨b, 4, none⟩ = some a4 := by
  refine ⟨?_, ?_, ?_, ?_, ?_⟩ <;> simp [World.cell?, h]

set_option maxRecDepth 100000 in
set_option maxHeartbeats 4000000 in
theorem wordsOf_calls (v : Hi.HV) (h : Hi.Hr) (w : World) (hH : Hi.HasH w v h) (hs : SmallH h) (hnil : NilH v) :
    Calls Tryd.prog 26 #[Hi.hvl v h] w fun e w' => ∃ mo mc, e = .returned (.slice mo (imW h).length mc) ∧ w'.ownsRow w.heap.size 42 1 (.slice mo (imW h).length mc) (imW h).length (wv (imW h)) ∧ Below w.heap.size w w' := by
  obtain ⟨no, uo, ul, wo, dl, nc, uc, ulc, wc, dlc⟩ := v
  obtain ⟨nd, uF, up, dF, dn⟩ := h
  obtain ⟨s1, s2, s3, s4, s5⟩ := hs
  simp only at s1 s2 s3 s4 s5
  have s6 : uF.length ≤ 65537 := by omega
  have s7 : dF.length ≤ 65537 := by omega
  clear s4 s5
  obtain ⟨W0, hW0⟩ : ∃ W0, w.alloc (.cells #[.slice no nd.length nc, .slice uo uF.length uc, .slice ul up.length ulc, .slice wo dF.length wc, .slice dl dn.length dlc] 25) = W0 := ⟨_, rfl⟩
  have HW0 : Hid (w.alloc (.cells #[.slice no nd.length nc, .slice uo uF.length uc, .slice ul up.length ulc, .slice wo dF.length wc, .slice dl dn.length dlc] 25) = W0) := hW0
  have hB0 : Below w.heap.size w W0 := by rw [← hW0]; exact (Below.refl _ _).alloc (Nat.le_refl _) _
  have hbx : W0.heap[w.heap.size]? = some (.cells #[.slice no nd.length nc, .slice uo uF.length uc, .slice ul up.length ulc, .slice wo dF.length wc, .slice dl dn.length dlc] 25) := by rw [← hW0]; exact heap_new _ _
  have HX : Hid (∀ wx, Below W0.heap.size W0 wx → (wx.cell? ⟨w.heap.size, 0, none⟩ = some (.slice no nd.length nc) ∧ wx.cell? ⟨w.heap.size, 1, none⟩ = some (.slice uo uF.length uc) ∧ wx.cell? ⟨w.heap.size, 2, none⟩ = some (.slice ul up.length ulc) ∧ wx.cell? ⟨w.heap.size, 3, none⟩ = some (.slice wo dF.length wc) ∧ wx.cell? ⟨w.heap.size, 4, none⟩ = some (.slice dl dn.length dlc)) ∧ w.heap.size < wx.heap.size ∧ Below w.heap.size w wx ∧ Hi.HasH wx ⟨no, uo, ul, wo, dl, nc, uc, ulc, wc, dlc⟩ ⟨nd, uF, up, dF, dn⟩) := fun wx hb => by
    have q := (hb.block _ (w_lt_get hbx)).trans hbx
    have hw := hB0.trans (hb.mono hB0.size)
    exact ⟨cells5 q, w_lt_get q, hw, hH.keep hw⟩
  have HNL : Hid ((no = none → nc = 0) ∧ (uo = none → uc = 0) ∧ (wo = none → wc = 0)) := ⟨hnil.n, hnil.u, hnil.d⟩
  have HSZ : Hid (w.heap.size ≤ W0.heap.size) := hB0.size
  obtain ⟨Z, hZ⟩ : ∃ Z, 32 + 12 * nd.length + 20 * (up.length + dn.length) = Z := ⟨_, rfl⟩
  have HSO : Hid (Calls Tryd.prog 27 #[.int .i64 (nd.length : Int), .int .i64 (up.length : Int), .int .i64 (dn.length : Int)] W0 fun e w' => e = .returned (.int .i64 (Z : Int)) ∧ w' = W0) := by
    have q := sizeOf_calls nd.length up.length dn.length (by omega) (by omega) (by omega) W0
    rw [hZ] at q
    exact q
  obtain ⟨C, hC⟩ : ∃ C : Nat, (Z : Int) / 4 = (C : Int) := ⟨Z / 4, by omega⟩
  have hCb : C ≤ 1073741824 := by omega
  obtain ⟨cs, hcs, hmk⟩ := make_wsI C hCb
  obtain ⟨⟨c0, c1, c2, c3, c4⟩, l0, _⟩ := HX.out W0 (Below.refl _ _)
  have HIM : Hid (imW ⟨nd, uF, up, dF, dn⟩ = [nd.length, up.length, dn.length] ++ nd ++ uF ++ lksW up ++ dF ++ lksW dn) := rfl
  have HCS : Hid (cs.size = C * 1) := hcs
  obtain ⟨A, hA⟩ : ∃ A, (W0.alloc (.cells cs 42)) = A := ⟨_, rfl⟩
  have HAA : Hid (W0.alloc (.cells cs 42) = A) := hA
  have bA : Below W0.heap.size W0 A := by rw [← hA]; exact (Below.refl _ _).alloc (Nat.le_refl _) _
  have kA : A.heap[W0.heap.size]? = some (.cells cs 42) := by rw [← hA]; exact heap_new _ _
  have HA0 : Hid (A.ownsRow W0.heap.size 42 1 (.slice (some ⟨W0.heap.size, 0, none⟩) 0 C) ([] : List Nat).length (wv []) ∧ Below W0.heap.size W0 A) :=
    ⟨⟨rfl, Or.inr ⟨W0.heap.size, C, cs, rfl, Nat.le_refl _, kA, Nat.zero_le _, by unfold maxLen; omega, hcs, rfl⟩⟩, bA⟩
  have L3 : Hid (wv [nd.length, up.length, dn.length] = [.int .u32 (nd.length : Int), .int .u32 (up.length : Int), .int .u32 (dn.length : Int)]) := rfl
  clear hW0 hB0 hbx hH hnil hZ hcs hA bA kA
  unfold Hi.hvl
  simp only
  go_enter Tryd.func26, Tryd.ntmps26
  go_upto_region 1 with fail
  rw [HW0.out]
  go_wp2_with fail
  refine HSO.out.mono ?_
  rintro e y ⟨rfl, hy⟩
  have hy' := hy.symm
  clear hy
  subst hy'
  go_upto_region 3 with fail
  rw [HAA.out]
  clear hmk hC c0 c1 c2 c3 c4 l0
  have B1 : Hid ((A.alloc (.cells #[.int .u32 (nd.length : Int), .int .u32 (up.length : Int), .int .u32 (dn.length : Int)] 42)).ownsRow W0.heap.size 42 1 (.slice (some ⟨W0.heap.size, 0, none⟩) 0 C) ([] : List Nat).length (wv []) ∧ HasW (A.alloc (.cells #[.int .u32 (nd.length : Int), .int .u32 (up.length : Int), .int .u32 (dn.length : Int)] 42)) (.slice (some ⟨A.heap.size, 0, none⟩) 3 3) [nd.length, up.length, dn.length] ∧ W0.heap.size ≤ (A.alloc (.cells #[.int .u32 (nd.length : Int), .int .u32 (up.length : Int), .int .u32 (dn.length : Int)] 42)).heap.size ∧ Below W0.heap.size W0 (A.alloc (.cells #[.int .u32 (nd.length : Int), .int .u32 (up.length : Int), .int .u32 (dn.length : Int)] 42))) := by
    have b1 : Below A.heap.size A (A.alloc (.cells #[.int .u32 (nd.length : Int), .int .u32 (up.length : Int), .int .u32 (dn.length : Int)] 42)) := (Below.refl _ _).alloc (Nat.le_refl _) _
    have b2 := HA0.out.2.trans (b1.mono HA0.out.2.size)
    exact ⟨wown_below HA0.out.1 b1, hasW_lit A [nd.length, up.length, dn.length] 42, b2.size, b2⟩
  obtain ⟨⟨c0, c1, c2, c3, c4⟩, l0, _⟩ := HX.out A HA0.out.2
  go_upto_region 4 with (at_builtin; refine wpList_append_W rfl _ _ rfl W0.heap.size (.slice (some ⟨W0.heap.size, 0, none⟩) 0 C) [] rfl B1.out.1 (some ⟨A.heap.size, 0, none⟩) 3 [nd.length, up.length, dn.length] rfl B1.out.2.1 (fun e => by cases e) (by simp only [List.length_cons, List.length_nil]; omega) B1.out.2.2.1 ?_; intro v1 w1 hown hgr; obtain ⟨o1, d1, hv⟩ := wown_slice hown; subst hv; have Y1 : Hid (w1.ownsRow W0.heap.size 42 1 (.slice o1 ([] ++ [nd.length, up.length, dn.length]).length d1) ([] ++ [nd.length, up.length, dn.length]).length (wv ([] ++ [nd.length, up.length, dn.length])) ∧ Below W0.heap.size W0 w1) := ⟨hown, wbelow_grown B1.out.2.2.2 B1.out.1 hgr B1.out.2.2.1⟩; clear hown hgr; obtain ⟨M1, hM1⟩ : ∃ M, [] ++ [nd.length, up.length, dn.length] = M := ⟨_, rfl⟩; rw [hM1] at Y1; rw [hM1]; have HM1 : Hid ([] ++ [nd.length, up.length, dn.length] = M1) := hM1; have hl1 : M1.length ≤ 3 := (by rw [← hM1, List.length_append]; simp); clear hM1 c0 c1 c2 c3 c4 l0; obtain ⟨⟨c0, c1, c2, c3, c4⟩, l0, _⟩ := HX.out w1 Y1.out.2)
  go_upto_region 5 with (at_builtin; refine wpList_append_W rfl _ _ rfl W0.heap.size (.slice o1 M1.length d1) M1 rfl Y1.out.1 no nc nd rfl (hasW_ws (HX.out w1 Y1.out.2).2.2.2.node) HNL.out.1 (by omega) Y1.out.2.size ?_; intro v2 w2 hown hgr; obtain ⟨o2, d2, hv⟩ := wown_slice hown; subst hv; have Y2 : Hid (w2.ownsRow W0.heap.size 42 1 (.slice o2 (M1 ++ nd).length d2) (M1 ++ nd).length (wv (M1 ++ nd)) ∧ Below W0.heap.size W0 w2) := ⟨hown, wbelow_grown Y1.out.2 Y1.out.1 hgr Y1.out.2.size⟩; clear hown hgr; obtain ⟨M2, hM2⟩ : ∃ M, M1 ++ nd = M := ⟨_, rfl⟩; rw [hM2] at Y2; rw [hM2]; have HM2 : Hid (M1 ++ nd = M2) := hM2; have hl2 : M2.length ≤ 70000 := (by rw [← hM2, List.length_append]; omega); clear hM2 c0 c1 c2 c3 c4 l0; obtain ⟨⟨c0, c1, c2, c3, c4⟩, l0, _⟩ := HX.out w2 Y2.out.2)
  go_upto_region 6 with (at_builtin; refine wpList_append_W rfl _ _ rfl W0.heap.size (.slice o2 M2.length d2) M2 rfl Y2.out.1 uo uc uF rfl (hasW_ws (HX.out w2 Y2.out.2).2.2.2.upF) HNL.out.2.1 (by omega) Y2.out.2.size ?_; intro v3 w3 hown hgr; obtain ⟨o3, d3, hv⟩ := wown_slice hown; subst hv; have Y3 : Hid (w3.ownsRow W0.heap.size 42 1 (.slice o3 (M2 ++ uF).length d3) (M2 ++ uF).length (wv (M2 ++ uF)) ∧ Below W0.heap.size W0 w3) := ⟨hown, wbelow_grown Y2.out.2 Y2.out.1 hgr Y2.out.2.size⟩; clear hown hgr; obtain ⟨M3, hM3⟩ : ∃ M, M2 ++ uF = M := ⟨_, rfl⟩; rw [hM3] at Y3; rw [hM3]; have HM3 : Hid (M2 ++ uF = M3) := hM3; have hl3 : M3.length ≤ 140000 := (by rw [← hM3, List.length_append]; omega); clear hM3 c0 c1 c2 c3 c4 l0; obtain ⟨⟨c0, c1, c2, c3, c4⟩, l0, _⟩ := HX.out w3 Y3.out.2)
  go_wp2_with fail
  refine (withLinks_calls W0.heap.size o3 d3 M3 ul ulc up w3 Y3.out.1 (fun wx hx => (HX.out wx (Y3.out.2.trans hx)).2.2.2.up) Y3.out.2.size (by omega) (by omega)).mono ?_
  rintro e w4 ⟨o4, d4, rfl, hown, hb⟩
  have Y4 : Hid (w4.ownsRow W0.heap.size 42 1 (.slice o4 (M3 ++ lksW up).length d4) (M3 ++ lksW up).length (wv (M3 ++ lksW up)) ∧ Below W0.heap.size W0 w4) := ⟨hown, Y3.out.2.trans hb⟩
  obtain ⟨M4, hM4⟩ : ∃ M, M3 ++ lksW up = M := ⟨_, rfl⟩
  rw [hM4] at Y4
  rw [hM4]
  have HM4 : Hid (M3 ++ lksW up = M4) := hM4
  have hl4 : M4.length ≤ 5500000 := by rw [← hM4, List.length_append, lksW_len]; omega
  clear hown hb hM4 c0 c1 c2 c3 c4 l0
  obtain ⟨⟨c0, c1, c2, c3, c4⟩, l0, _⟩ := HX.out w4 Y4.out.2
  go_upto_region 8 with (at_builtin; refine wpList_append_W rfl _ _ rfl W0.heap.size (.slice o4 M4.length d4) M4 rfl Y4.out.1 wo wc dF rfl (hasW_ws (HX.out w4 Y4.out.2).2.2.2.dnF) HNL.out.2.2 (by omega) Y4.out.2.size ?_; intro v5 w5 hown hgr; obtain ⟨o5, d5, hv⟩ := wown_slice hown; subst hv; have Y5 : Hid (w5.ownsRow W0.heap.size 42 1 (.slice o5 (M4 ++ dF).length d5) (M4 ++ dF).length (wv (M4 ++ dF)) ∧ Below W0.heap.size W0 w5) := ⟨hown, wbelow_grown Y4.out.2 Y4.out.1 hgr Y4.out.2.size⟩; clear hown hgr; obtain ⟨M5, hM5⟩ : ∃ M, M4 ++ dF = M := ⟨_, rfl⟩; rw [hM5] at Y5; rw [hM5]; have HM5 : Hid (M4 ++ dF = M5) := hM5; have hl5 : M5.length ≤ 5600000 := (by rw [← hM5, List.length_append]; omega); clear hM5 c0 c1 c2 c3 c4 l0; obtain ⟨⟨c0, c1, c2, c3, c4⟩, l0, _⟩ := HX.out w5 Y5.out.2)
  go_wp2_with fail
  refine (withLinks_calls W0.heap.size o5 d5 M5 dl dlc dn w5 Y5.out.1 (fun wx hx => (HX.out wx (Y5.out.2.trans hx)).2.2.2.dn) Y5.out.2.size (by omega) (by omega)).mono ?_
  rintro e w6 ⟨o6, d6, rfl, hown, hb⟩
  have Y6 : Hid (w6.ownsRow W0.heap.size 42 1 (.slice o6 (M5 ++ lksW dn).length d6) (M5 ++ lksW dn).length (wv (M5 ++ lksW dn)) ∧ Below W0.heap.size W0 w6) := ⟨hown, Y5.out.2.trans hb⟩
  obtain ⟨M6, hM6⟩ : ∃ M, M5 ++ lksW dn = M := ⟨_, rfl⟩
  rw [hM6] at Y6
  rw [hM6]
  have HM6 : Hid (M5 ++ lksW dn = M6) := hM6
  clear hown hb hM6 c0 c1 c2 c3 c4 l0
  go_wp2
  go_ret
  have e6 : imW ⟨nd, uF, up, dF, dn⟩ = M6 := by rw [HIM.out, ← HM6.out, ← HM5.out, ← HM4.out, ← HM3.out, ← HM2.out, ← HM1.out]; rfl
  exact ⟨o6, d6, by rw [e6]; rfl, by rw [e6]; exact wown_base Y6.out.1 HSZ.out, (HX.out w6 Y6.out.2).2.2.1⟩
end Go.Proofs.YtamedcnjanichaaDoor

namespace Go.Proofs.YtamedcnjanichaaDoor
open Go.RowKit Go.Extern Cr

attribute [local go_sem] Oper.semAt_some

theorem btrI {a b c : World} (h : Below a.heap.size a b) (k : Below b.heap.size b c) : Below a.heap.size a c := h.trans (k.mono h.size)
theorem told_nil {w : World} {u : Value} (h : IsTold w (0, []) u) : u = .nilIface := by
  rcases h with ⟨_, h⟩ | ⟨h, _⟩
  · exact h
  · exact absurd rfl h
theorem told_some {w : World} {E : Int × List (Int × Int)} {u : Value} (h : IsTold w E u) (hE : E ≠ (0, [])) : ∃ T x, u = .iface T x := by
  rcases h with ⟨e, _⟩ | ⟨_, h2⟩
  · exact absurd e hE
  · obtain ⟨c, ps⟩ := E
    cases ps with
    | nil => exact ⟨_, _, h2⟩
    | cons p r =>
      obtain ⟨b, u', e, _⟩ := h2
      exact ⟨_, _, e⟩
theorem len_le {h : Hi.Hr} (hs : SmallH h) : (imW h).length ≤ 11000000 := by
  rw [imW_len]
  have := hs.n
  have := hs.u
  have := hs.d
  have := hs.uf
  have := hs.df
  omega

set_option maxRecDepth 100000 in
set_option maxHeartbeats 2000000 in
theorem encode_bad (v : Hi.HV) (h : Hi.Hr) (w : World) (hH : Hi.HasH w v h) (hb1 : h.up.length ≤ 1152921504606846976) (hb2 : h.dn.length ≤ 1152921504606846976) (hb3 : h.node.length ≤ 1152921504606846976) (hc : Hi.chk h ≠ (0, [])) :
    Calls Tryd.prog 9 #[Hi.hvl v h] w fun e w' => ∃ T x, e = .returned (.tuple #[.slice none 0 0, .iface T x]) ∧ IsTold w' (Hi.chk h) (.iface T x) ∧ Below w.heap.size w w' := by
  obtain ⟨no, uo, ul, wo, dl, nc, uc, ulc, wc, dlc⟩ := v
  obtain ⟨nd, uF, up, dF, dn⟩ := h
  obtain ⟨W0, hW0⟩ : ∃ W0, w.alloc (.cells #[.slice no nd.length nc, .slice uo uF.length uc, .slice ul up.length ulc, .slice wo dF.length wc, .slice dl dn.length dlc] 25) = W0 := ⟨_, rfl⟩
  have HW0 : Hid (w.alloc (.cells #[.slice no nd.length nc, .slice uo uF.length uc, .slice ul up.length ulc, .slice wo dF.length wc, .slice dl dn.length dlc] 25) = W0) := hW0
  have hB0 : Below w.heap.size w W0 := by rw [← hW0]; exact (Below.refl _ _).alloc (Nat.le_refl _) _
  have hbx : W0.heap[w.heap.size]? = some (.cells #[.slice no nd.length nc, .slice uo uF.length uc, .slice ul up.length ulc, .slice wo dF.length wc, .slice dl dn.length dlc] 25) := by rw [← hW0]; exact heap_new _ _
  have HX : Hid (∀ wx, Below W0.heap.size W0 wx → (wx.cell? ⟨w.heap.size, 0, none⟩ = some (.slice no nd.length nc) ∧ wx.cell? ⟨w.heap.size, 1, none⟩ = some (.slice uo uF.length uc) ∧ wx.cell? ⟨w.heap.size, 2, none⟩ = some (.slice ul up.length ulc) ∧ wx.cell? ⟨w.heap.size, 3, none⟩ = some (.slice wo dF.length wc) ∧ wx.cell? ⟨w.heap.size, 4, none⟩ = some (.slice dl dn.length dlc)) ∧ w.heap.size < wx.heap.size ∧ Below w.heap.size w wx ∧ Hi.HasH wx ⟨no, uo, ul, wo, dl, nc, uc, ulc, wc, dlc⟩ ⟨nd, uF, up, dF, dn⟩) := fun wx hb => by
    have q := (hb.block _ (w_lt_get hbx)).trans hbx
    have hw := hB0.trans (hb.mono hB0.size)
    exact ⟨cells5 q, w_lt_get q, hw, hH.keep hw⟩
  obtain ⟨⟨c0, c1, c2, c3, c4⟩, l0, _⟩ := HX.out W0 (Below.refl _ _)
  have HCK : Hid (Calls Tryd.prog 11 #[.agg #[.slice no nd.length nc, .slice uo uF.length uc, .slice ul up.length ulc, .slice wo dF.length wc, .slice dl dn.length dlc]] W0 fun e w' => ∃ u, e = .returned u ∧ IsTold w' (Hi.chk ⟨nd, uF, up, dF, dn⟩) u ∧ Below W0.heap.size W0 w') := Hi.check_calls ⟨no, uo, ul, wo, dl, nc, uc, ulc, wc, dlc⟩ ⟨nd, uF, up, dF, dn⟩ W0 (hH.keep hB0) hb1 hb2 hb3
  have HC : Hid (Hi.chk ⟨nd, uF, up, dF, dn⟩ ≠ (0, [])) := hc
  clear hW0 hB0 hbx hH hc
  unfold Hi.hvl
  simp only
  go_enter Tryd.func9, Tryd.ntmps9
  go_upto_region 1 with fail
  rw [HW0.out]
  go_wp2_with fail
  refine HCK.out.mono ?_
  rintro e w1 ⟨u, rfl, hu, hb⟩
  obtain ⟨T, x, rfl⟩ := told_some hu HC.out
  have Y1 : Hid (IsTold w1 (Hi.chk ⟨nd, uF, up, dF, dn⟩) (.iface T x) ∧ Below w.heap.size w w1) := ⟨hu, (HX.out w1 hb).2.2.1⟩
  clear hu hb
  go_wp2
  go_ret2
  exact ⟨T, x, rfl, Y1.out.1, Y1.out.2⟩

set_option maxRecDepth 100000 in
set_option maxHeartbeats 2000000 in
theorem size_bad (v : Hi.HV) (h : Hi.Hr) (w : World) (hH : Hi.HasH w v h) (hb1 : h.up.length ≤ 1152921504606846976) (hb2 : h.dn.length ≤ 1152921504606846976) (hb3 : h.node.length ≤ 1152921504606846976) (hc : Hi.chk h ≠ (0, [])) :
    Calls Tryd.prog 10 #[Hi.hvl v h] w fun e w' => ∃ T x, e = .returned (.tuple #[.int .i64 0, .iface T x]) ∧ IsTold w' (Hi.chk h) (.iface T x) ∧ Below w.heap.size w w' := by
  obtain ⟨no, uo, ul, wo, dl, nc, uc, ulc, wc, dlc⟩ := v
  obtain ⟨nd, uF, up, dF, dn⟩ := h
  obtain ⟨W0, hW0⟩ : ∃ W0, w.alloc (.cells #[.slice no nd.length nc, .slice uo uF.length uc, .slice ul up.length ulc, .slice wo dF.length wc, .slice dl dn.length dlc] 25) = W0 := ⟨_, rfl⟩
  have HW0 : Hid (w.alloc (.cells #[.slice no nd.length nc, .slice uo uF.length uc, .slice ul up.length ulc, .slice wo dF.length wc, .slice dl dn.length dlc] 25) = W0) := hW0
  have hB0 : Below w.heap.size w W0 := by rw [← hW0]; exact (Below.refl _ _).alloc (Nat.le_refl _) _
  have hbx : W0.heap[w.heap.size]? = some (.cells #[.slice no nd.length nc, .slice uo uF.length uc, .slice ul up.length ulc, .slice wo dF.length wc, .slice dl dn.length dlc] 25) := by rw [← hW0]; exact heap_new _ _
  have HX : Hid (∀ wx, Below W0.heap.size W0 wx → (wx.cell? ⟨w.heap.size, 0, none⟩ = some (.slice no nd.length nc) ∧ wx.cell? ⟨w.heap.size, 1, none⟩ = some (.slice uo uF.length uc) ∧ wx.cell? ⟨w.heap.size, 2, none⟩ = some (.slice ul up.length ulc) ∧ wx.cell? ⟨w.heap.size, 3, none⟩ = some (.slice wo dF.length wc) ∧ wx.cell? ⟨w.heap.size, 4, none⟩ = some (.slice dl dn.length dlc)) ∧ w.heap.size < wx.heap.size ∧ Below w.heap.size w wx ∧ Hi.HasH wx ⟨no, uo, ul, wo, dl, nc, uc, ulc, wc, dlc⟩ ⟨nd, uF, up, dF, dn⟩) := fun wx hb => by
    have q := (hb.block _ (w_lt_get hbx)).trans hbx
    have hw := hB0.trans (hb.mono hB0.size)
    exact ⟨cells5 q, w_lt_get q, hw, hH.keep hw⟩
  obtain ⟨⟨c0, c1, c2, c3, c4⟩, l0, _⟩ := HX.out W0 (Below.refl _ _)
  have HCK : Hid (Calls Tryd.prog 11 #[.agg #[.slice no nd.length nc, .slice uo uF.length uc, .slice ul up.length ulc, .slice wo dF.length wc, .slice dl dn.length dlc]] W0 fun e w' => ∃ u, e = .returned u ∧ IsTold w' (Hi.chk ⟨nd, uF, up, dF, dn⟩) u ∧ Below W0.heap.size W0 w') := Hi.check_calls ⟨no, uo, ul, wo, dl, nc, uc, ulc, wc, dlc⟩ ⟨nd, uF, up, dF, dn⟩ W0 (hH.keep hB0) hb1 hb2 hb3
  have HC : Hid (Hi.chk ⟨nd, uF, up, dF, dn⟩ ≠ (0, [])) := hc
  clear hW0 hB0 hbx hH hc
  unfold Hi.hvl
  simp only
  go_enter Tryd.func10, Tryd.ntmps10
  go_upto_region 1 with fail
  rw [HW0.out]
  go_wp2_with fail
  refine HCK.out.mono ?_
  rintro e w1 ⟨u, rfl, hu, hb⟩
  obtain ⟨T, x, rfl⟩ := told_some hu HC.out
  have Y1 : Hid (IsTold w1 (Hi.chk ⟨nd, uF, up, dF, dn⟩) (.iface T x) ∧ Below w.heap.size w w1) := ⟨hu, (HX.out w1 hb).2.2.1⟩
  clear hu hb
  go_wp2
  go_ret2
  exact ⟨T, x, rfl, Y1.out.1, Y1.out.2⟩

set_option maxRecDepth 100000 in
set_option maxHeartbeats 2000000 in
theorem size_good (v : Hi.HV) (h : Hi.Hr) (w : World) (hH : Hi.HasH w v h) (hc : Hi.chk h = (0, [])) :
    Calls Tryd.prog 10 #[Hi.hvl v h] w fun e w' => e = .returned (.tuple #[.int .i64 ((32 + 12 * h.node.length + 20 * (h.up.length + h.dn.length) : Nat) : Int), .nilIface]) ∧ Below w.heap.size w w' := by
  obtain ⟨s1, s2, s3, s4, s5⟩ := small_of_chk hc
  clear s4 s5
  obtain ⟨no, uo, ul, wo, dl, nc, uc, ulc, wc, dlc⟩ := v
  obtain ⟨nd, uF, up, dF, dn⟩ := h
  simp only at s1 s2 s3
  have hb1 : up.length ≤ 1152921504606846976 := by omega
  have hb2 : dn.length ≤ 1152921504606846976 := by omega
  have hb3 : nd.length ≤ 1152921504606846976 := by omega
  obtain ⟨W0, hW0⟩ : ∃ W0, w.alloc (.cells #[.slice no nd.length nc, .slice uo uF.length uc, .slice ul up.length ulc, .slice wo dF.length wc, .slice dl dn.length dlc] 25) = W0 := ⟨_, rfl⟩
  have HW0 : Hid (w.alloc (.cells #[.slice no nd.length nc, .slice uo uF.length uc, .slice ul up.length ulc, .slice wo dF.length wc, .slice dl dn.length dlc] 25) = W0) := hW0
  have hB0 : Below w.heap.size w W0 := by rw [← hW0]; exact (Below.refl _ _).alloc (Nat.le_refl _) _
  have hbx : W0.heap[w.heap.size]? = some (.cells #[.slice no nd.length nc, .slice uo uF.length uc, .slice ul up.length ulc, .slice wo dF.length wc, .slice dl dn.length dlc] 25) := by rw [← hW0]; exact heap_new _ _
  have HX : Hid (∀ wx, Below W0.heap.size W0 wx → (wx.cell? ⟨w.heap.size, 0, none⟩ = some (.slice no nd.length nc) ∧ wx.cell? ⟨w.heap.size, 1, none⟩ = some (.slice uo uF.length uc) ∧ wx.cell? ⟨w.heap.size, 2, none⟩ = some (.slice ul up.length ulc) ∧ wx.cell? ⟨w.heap.size, 3, none⟩ = some (.slice wo dF.length wc) ∧ wx.cell? ⟨w.heap.size, 4, none⟩ = some (.slice dl dn.length dlc)) ∧ w.heap.size < wx.heap.size ∧ Below w.heap.size w wx ∧ Hi.HasH wx ⟨no, uo, ul, wo, dl, nc, uc, ulc, wc, dlc⟩ ⟨nd, uF, up, dF, dn⟩) := fun wx hb => by
    have q := (hb.block _ (w_lt_get hbx)).trans hbx
    have hw := hB0.trans (hb.mono hB0.size)
    exact ⟨cells5 q, w_lt_get q, hw, hH.keep hw⟩
  obtain ⟨⟨c0, c1, c2, c3, c4⟩, l0, _⟩ := HX.out W0 (Below.refl _ _)
  have HCK : Hid (Calls Tryd.prog 11 #[.agg #[.slice no nd.length nc, .slice uo uF.length uc, .slice ul up.length ulc, .slice wo dF.length wc, .slice dl dn.length dlc]] W0 fun e w' => ∃ u, e = .returned u ∧ IsTold w' (Hi.chk ⟨nd, uF, up, dF, dn⟩) u ∧ Below W0.heap.size W0 w') := Hi.check_calls ⟨no, uo, ul, wo, dl, nc, uc, ulc, wc, dlc⟩ ⟨nd, uF, up, dF, dn⟩ W0 (hH.keep hB0) hb1 hb2 hb3
  rw [hc] at HCK
  have HSO : Hid (∀ wx, Calls Tryd.prog 27 #[.int .i64 (nd.length : Int), .int .i64 (up.length : Int), .int .i64 (dn.length : Int)] wx fun e w' => e = .returned (.int .i64 ((32 + 12 * nd.length + 20 * (up.length + dn.length) : Nat) : Int)) ∧ w' = wx) := fun wx => sizeOf_calls nd.length up.length dn.length (by omega) (by omega) (by omega) wx
  obtain ⟨Z, hZ⟩ : ∃ Z, 32 + 12 * nd.length + 20 * (up.length + dn.length) = Z := ⟨_, rfl⟩
  simp only
  rw [hZ] at HSO ⊢
  clear hW0 hB0 hbx hH hc hZ
  unfold Hi.hvl
  simp only
  go_enter Tryd.func10, Tryd.ntmps10
  go_upto_region 1 with fail
  rw [HW0.out]
  go_wp2_with fail
  refine HCK.out.mono ?_
  rintro e w1 ⟨u, rfl, hu, hb⟩
  obtain rfl := told_nil hu
  have Y1 : Hid (Below W0.heap.size W0 w1) := hb
  clear hu hb c0 c1 c2 c3 c4 l0
  obtain ⟨⟨c0, c1, c2, c3, c4⟩, l0, _⟩ := HX.out w1 Y1.out
  go_wp2_with fail
  refine (HSO.out w1).mono ?_
  rintro e y ⟨rfl, hy⟩
  have hy' := hy.symm
  clear hy
  subst hy'
  go_wp2
  go_ret2
  exact ⟨rfl, (HX.out w1 Y1.out).2.2.1⟩

set_option maxRecDepth 100000 in
set_option maxHeartbeats 2000000 in
theorem encode_good (v : Hi.HV) (h : Hi.Hr) (w : World) (hH : Hi.HasH w v h) (hnil : NilH v) (hc : Hi.chk h = (0, [])) (hf : HasFours w) (hg : 1 < w.heap.size) :
    Calls Tryd.prog 9 #[Hi.hvl v h] w fun e w' => ∃ mo mc, e = .returned (.tuple #[.slice mo (imB h).length mc, .nilIface]) ∧ w'.ownsRow w.heap.size 5 1 (.slice mo (imB h).length mc) (imB h).length (bv (imB h)) ∧ Below w.heap.size w w' := by
  have hs := small_of_chk hc
  have hle := len_le hs
  have hok := imW_ok hs hH
  obtain ⟨s1, s2, s3, s4, s5⟩ := small_of_chk hc
  clear s4 s5
  have hpl := imP_len h
  have hpb := imP_bts h
  have hbl : (imB h).length = (imP h).length + 4 := seal_len _
  have hbd : imB h = sealOf (imP h) := rfl
  have hpd : imP h = head8 ++ bytesOf (imW h) := rfl
  obtain ⟨no, uo, ul, wo, dl, nc, uc, ulc, wc, dlc⟩ := v
  obtain ⟨nd, uF, up, dF, dn⟩ := h
  simp only at s1 s2 s3
  have hb1 : up.length ≤ 1152921504606846976 := by omega
  have hb2 : dn.length ≤ 1152921504606846976 := by omega
  have hb3 : nd.length ≤ 1152921504606846976 := by omega
  obtain ⟨W0, hW0⟩ : ∃ W0, w.alloc (.cells #[.slice no nd.length nc, .slice uo uF.length uc, .slice ul up.length ulc, .slice wo dF.length wc, .slice dl dn.length dlc] 25) = W0 := ⟨_, rfl⟩
  have HW0 : Hid (w.alloc (.cells #[.slice no nd.length nc, .slice uo uF.length uc, .slice ul up.length ulc, .slice wo dF.length wc, .slice dl dn.length dlc] 25) = W0) := hW0
  have hB0 : Below w.heap.size w W0 := by rw [← hW0]; exact (Below.refl _ _).alloc (Nat.le_refl _) _
  have hbx : W0.heap[w.heap.size]? = some (.cells #[.slice no nd.length nc, .slice uo uF.length uc, .slice ul up.length ulc, .slice wo dF.length wc, .slice dl dn.length dlc] 25) := by rw [← hW0]; exact heap_new _ _
  have HX : Hid (∀ wx, Below W0.heap.size W0 wx → (wx.cell? ⟨w.heap.size, 0, none⟩ = some (.slice no nd.length nc) ∧ wx.cell? ⟨w.heap.size, 1, none⟩ = some (.slice uo uF.length uc) ∧ wx.cell? ⟨w.heap.size, 2, none⟩ = some (.slice ul up.length ulc) ∧ wx.cell? ⟨w.heap.size, 3, none⟩ = some (.slice wo dF.length wc) ∧ wx.cell? ⟨w.heap.size, 4, none⟩ = some (.slice dl dn.length dlc)) ∧ w.heap.size < wx.heap.size ∧ Below w.heap.size w wx ∧ Hi.HasH wx ⟨no, uo, ul, wo, dl, nc, uc, ulc, wc, dlc⟩ ⟨nd, uF, up, dF, dn⟩) := fun wx hb => by
    have q := (hb.block _ (w_lt_get hbx)).trans hbx
    have hw := hB0.trans (hb.mono hB0.size)
    exact ⟨cells5 q, w_lt_get q, hw, hH.keep hw⟩
  obtain ⟨⟨c0, c1, c2, c3, c4⟩, l0, _⟩ := HX.out W0 (Below.refl _ _)
  have HCK : Hid (Calls Tryd.prog 11 #[.agg #[.slice no nd.length nc, .slice uo uF.length uc, .slice ul up.length ulc, .slice wo dF.length wc, .slice dl dn.length dlc]] W0 fun e w' => ∃ u, e = .returned u ∧ IsTold w' (Hi.chk ⟨nd, uF, up, dF, dn⟩) u ∧ Below W0.heap.size W0 w') := Hi.check_calls ⟨no, uo, ul, wo, dl, nc, uc, ulc, wc, dlc⟩ ⟨nd, uF, up, dF, dn⟩ W0 (hH.keep hB0) hb1 hb2 hb3
  rw [hc] at HCK
  have HWO : Hid (∀ wx, Below W0.heap.size W0 wx → Calls Tryd.prog 26 #[.agg #[.slice no nd.length nc, .slice uo uF.length uc, .slice ul up.length ulc, .slice wo dF.length wc, .slice dl dn.length dlc]] wx fun e w' => ∃ mo mc, e = .returned (.slice mo (imW ⟨nd, uF, up, dF, dn⟩).length mc) ∧ HasW w' (.slice mo (imW ⟨nd, uF, up, dF, dn⟩).length mc) (imW ⟨nd, uF, up, dF, dn⟩) ∧ Below wx.heap.size wx w') := fun wx hb => by
    refine (wordsOf_calls ⟨no, uo, ul, wo, dl, nc, uc, ulc, wc, dlc⟩ ⟨nd, uF, up, dF, dn⟩ wx (HX.out wx hb).2.2.2 hs hnil).mono ?_
    rintro e w' ⟨mo, mc, rfl, ho, hb⟩
    exact ⟨mo, mc, rfl, hasW_own ho, hb⟩
  have HFR : Hid (∀ wx, Below W0.heap.size W0 wx → HasFours wx ∧ 1 < wx.heap.size) := fun wx hb => ⟨fours_keep hf hg (HX.out wx hb).2.2.1, Nat.lt_of_lt_of_le hg (HX.out wx hb).2.2.1.size⟩
  generalize imB ⟨nd, uF, up, dF, dn⟩ = Bq at *
  generalize imP ⟨nd, uF, up, dF, dn⟩ = P at *
  generalize imW ⟨nd, uF, up, dF, dn⟩ = ws at *
  have HPW : Hid (∀ lo lc ro rc wx, HasB wx (.slice lo 8 lc) head8 → (lo = none → lc = 0) → HasW wx (.slice ro ws.length rc) ws → Calls Tryd.prog 25 #[.slice lo 8 lc, .slice ro ws.length rc] wx fun e w' => ∃ mo mc, e = .returned (.slice mo P.length mc) ∧ (HasB w' (.slice mo P.length mc) P ∧ (mo = none → mc = 0)) ∧ Below wx.heap.size wx w') := fun lo lc ro rc wx h1 h2 h3 => by
    refine (putWords_calls lo ro lc rc head8 ws wx h1 h3 (by decide) (by omega) h2 hok).mono ?_
    rintro e w' ⟨g, rfl, hr⟩
    have e1 : head8.length + 4 * ws.length = P.length := by rw [hpl]; rfl
    have hr1 := hr.has
    have e2 : (head8 ++ bytesOf ws).length = P.length := by rw [hpd]
    rw [e2, ← hpd, e1] at hr1
    exact ⟨some ⟨g, 0, none⟩, P.length, by rw [e1], ⟨hr1, fun e => by cases e⟩, hr.below⟩
  have HSL : Hid (∀ lo lc wx, Below W0.heap.size W0 wx → HasB wx (.slice lo P.length lc) P → (lo = none → lc = 0) → Calls Tryd.prog 24 #[.slice lo P.length lc] wx fun e w' => ∃ mo mc, e = .returned (.slice mo Bq.length mc) ∧ w'.ownsRow wx.heap.size 5 1 (.slice mo Bq.length mc) Bq.length (bv Bq) ∧ Below wx.heap.size wx w') := fun lo lc wx hb h1 h2 => by
    refine (cSeal_calls lo lc P wx (HFR.out wx hb).1 (HFR.out wx hb).2 h1 hpb (by omega) h2).mono ?_
    rintro e w' ⟨mo, mc, rfl, ho, hb⟩
    rw [← hbd, ← hbl] at ho
    rw [← hbl]
    exact ⟨mo, mc, rfl, ho, hb⟩
  have kc := fun (w : World) (C : Array Value) (n c : Nat) => conv_const w C n c
  clear hW0 hB0 hbx hH hc hle hok hpl hpb hbl hbd hpd hnil hs hf hg
  unfold Hi.hvl
  simp only
  go_enter Tryd.func9, Tryd.ntmps9
  go_upto_region 1 with fail
  rw [HW0.out]
  go_wp2_with fail
  refine HCK.out.mono ?_
  rintro e w1 ⟨u, rfl, hu, hb⟩
  obtain rfl := told_nil hu
  have Y1 : Hid (Below W0.heap.size W0 w1) := hb
  clear hu hb c0 c1 c2 c3 c4 l0
  obtain ⟨W2, hW2⟩ : ∃ W2, w1.alloc (.cells #[.int .u8 86, .int .u8 68, .int .u8 67, .int .u8 84, .int .u8 1, .int .u8 0, .int .u8 0, .int .u8 0] 5 (8, 9)) = W2 := ⟨_, rfl⟩
  have HW2 : Hid (w1.alloc (.cells #[.int .u8 86, .int .u8 68, .int .u8 67, .int .u8 84, .int .u8 1, .int .u8 0, .int .u8 0, .int .u8 0] 5 (8, 9)) = W2) := hW2
  have b2 : Below w1.heap.size w1 W2 := by rw [← hW2]; exact (Below.refl _ _).alloc (Nat.le_refl _) _
  have Y2 : Hid (Below W0.heap.size W0 W2 ∧ HasB W2 (.slice (some ⟨w1.heap.size, 0, none⟩) 8 8) head8) := ⟨btrI Y1.out b2, by rw [← hW2]; exact hasB_new w1 head8 8 (8, 9)⟩
  clear hW2 b2
  obtain ⟨⟨c0, c1, c2, c3, c4⟩, l0, _⟩ := HX.out w1 Y1.out
  go_wp2_with fail
  rw [HW2.out]
  refine (HWO.out W2 Y2.out.1).mono ?_
  rintro e w3 ⟨o3, d3, rfl, hw3, hb⟩
  have Y3 : Hid (Below W0.heap.size W0 w3 ∧ HasB w3 (.slice (some ⟨w1.heap.size, 0, none⟩) 8 8) head8 ∧ HasW w3 (.slice o3 ws.length d3) ws) := ⟨btrI Y2.out.1 hb, Y2.out.2.keep hb, hw3⟩
  clear hw3 hb c0 c1 c2 c3 c4 l0
  go_wp2_with fail
  refine (HPW.out _ _ _ _ w3 Y3.out.2.1 (fun e => by cases e) Y3.out.2.2).mono ?_
  rintro e w4 ⟨o4, d4, rfl, hh, hb⟩
  have Y4 : Hid (Below W0.heap.size W0 w4 ∧ HasB w4 (.slice o4 P.length d4) P ∧ (o4 = none → d4 = 0)) := ⟨btrI Y3.out.1 hb, hh⟩
  clear hh hb
  go_wp2_with fail
  refine (HSL.out _ _ w4 Y4.out.1 Y4.out.2.1 Y4.out.2.2).mono ?_
  rintro e w5 ⟨o5, d5, rfl, ho, hb⟩
  have Y5 : Hid (w5.ownsRow w.heap.size 5 1 (.slice o5 Bq.length d5) Bq.length (bv Bq) ∧ Below w.heap.size w w5) := ⟨bown_base ho (HX.out w4 Y4.out.1).2.2.1.size, (HX.out w5 (btrI Y4.out.1 hb)).2.2.1⟩
  clear ho hb
  go_wp2
  go_ret2
  exact ⟨o5, d5, rfl, Y5.out.1, Y5.out.2⟩
theorem vPutW_any (lo ro : Option Addr) (lc rc : Nat) (l ws : List Nat) (w : World) (hl : HasB w (.slice lo l.length lc) l) (hr : HasW w (.slice ro ws.length rc) ws) (hm : l.length + 4 * ws.length ≤ 140737488355328) (hc : lo = none → lc = 0) (hw : ∀ x ∈ ws, x < 4294967296) :
    Calls Tryd.prog 41 #[.slice lo l.length lc, .slice ro ws.length rc] w fun e w' => ∃ mo mc, e = .returned (.slice mo (l ++ bytesOf ws).length mc) ∧ (HasB w' (.slice mo (l ++ bytesOf ws).length mc) (l ++ bytesOf ws) ∧ (mo = none → mc = 0)) ∧ Below w.heap.size w w' := by
  refine (vPutWords_calls lo ro lc rc l ws w hl hr hm hc hw).mono ?_
  rintro e w' ⟨mo, mc, rfl, ho, hb⟩
  have e1 : l.length + 4 * ws.length = (l ++ bytesOf ws).length := by rw [List.length_append, bytesOf_len]
  rw [e1] at ho
  rw [e1]
  exact ⟨mo, mc, rfl, ⟨hasB_own ho, own_nil ho⟩, hb⟩

set_option maxRecDepth 100000 in
set_option maxHeartbeats 4000000 in
theorem raw_calls (v : Hi.HV) (h : Hi.Hr) (w : World) (hH : Hi.HasH w v h) (hs : SmallH h) :
    Calls Tryd.prog 22 #[Hi.hvl v h] w fun e w' => ∃ mo mc, e = .returned (.slice mo (imB h).length mc) ∧ w'.ownsRow w.heap.size 5 1 (.slice mo (imB h).length mc) (imB h).length (bv (imB h)) ∧ Below w.heap.size w w' := by
  obtain ⟨s1, s2, s3, s4, s5⟩ := hs
  have hpb := imP_bts h
  have hbl : (imB h).length = (imP h).length + 4 := seal_len _
  have hbd : imB h = sealOf (imP h) := rfl
  have hpd : imP h = head8 ++ bytesOf [h.node.length, h.up.length, h.dn.length] ++ bytesOf h.node ++ bytesOf h.upF ++ bytesOf (lksW h.up) ++ bytesOf h.dnF ++ bytesOf (lksW h.dn) := by
    unfold imP imW
    simp only [bytesOf_append, List.append_assoc]
  obtain ⟨no, uo, ul, wo, dl, nc, uc, ulc, wc, dlc⟩ := v
  obtain ⟨nd, uF, up, dF, dn⟩ := h
  simp only at s1 s2 s3 s4 s5 hpd
  have s6 : uF.length ≤ 65537 := by omega
  have s7 : dF.length ≤ 65537 := by omega
  clear s4 s5
  obtain ⟨W0, hW0⟩ : ∃ W0, w.alloc (.cells #[.slice no nd.length nc, .slice uo uF.length uc, .slice ul up.length ulc, .slice wo dF.length wc, .slice dl dn.length dlc] 25) = W0 := ⟨_, rfl⟩
  have HW0 : Hid (w.alloc (.cells #[.slice no nd.length nc, .slice uo uF.length uc, .slice ul up.length ulc, .slice wo dF.length wc, .slice dl dn.length dlc] 25) = W0) := hW0
  have hB0 : Below w.heap.size w W0 := by rw [← hW0]; exact (Below.refl _ _).alloc (Nat.le_refl _) _
  have hbx : W0.heap[w.heap.size]? = some (.cells #[.slice no nd.length nc, .slice uo uF.length uc, .slice ul up.length ulc, .slice wo dF.length wc, .slice dl dn.length dlc] 25) := by rw [← hW0]; exact heap_new _ _
  have HX : Hid (∀ wx, Below W0.heap.size W0 wx → (wx.cell? ⟨w.heap.size, 0, none⟩ = some (.slice no nd.length nc) ∧ wx.cell? ⟨w.heap.size, 1, none⟩ = some (.slice uo uF.length uc) ∧ wx.cell? ⟨w.heap.size, 2, none⟩ = some (.slice ul up.length ulc) ∧ wx.cell? ⟨w.heap.size, 3, none⟩ = some (.slice wo dF.length wc) ∧ wx.cell? ⟨w.heap.size, 4, none⟩ = some (.slice dl dn.length dlc)) ∧ w.heap.size < wx.heap.size ∧ Below w.heap.size w wx ∧ Hi.HasH wx ⟨no, uo, ul, wo, dl, nc, uc, ulc, wc, dlc⟩ ⟨nd, uF, up, dF, dn⟩) := fun wx hb => by
    have q := (hb.block _ (w_lt_get hbx)).trans hbx
    have hw := hB0.trans (hb.mono hB0.size)
    exact ⟨cells5 q, w_lt_get q, hw, hH.keep hw⟩
  obtain ⟨⟨c0, c1, c2, c3, c4⟩, l0, _⟩ := HX.out W0 (Below.refl _ _)
  have hws : ∀ wx, Below W0.heap.size W0 wx → HasW wx (.slice no nd.length nc) nd ∧ HasW wx (.slice uo uF.length uc) uF ∧ HasW wx (.slice wo dF.length wc) dF := fun wx hb => by
    obtain ⟨q1, q2, q3, q4, q5⟩ := (HX.out wx hb).2.2.2
    exact ⟨hasW_ws q1, hasW_ws q2, hasW_ws q4⟩
  have HWS : Hid (type_of% hws) := hws
  have HOK : Hid ((∀ x ∈ nd, x < 4294967296) ∧ (∀ x ∈ uF, x < 4294967296) ∧ (∀ x ∈ dF, x < 4294967296)) := ⟨Hi.HasWs.ok hH.node, Hi.HasWs.ok hH.upF, Hi.HasWs.ok hH.dnF⟩
  have HPD : Hid (imP ⟨nd, uF, up, dF, dn⟩ = head8 ++ bytesOf [nd.length, up.length, dn.length] ++ bytesOf nd ++ bytesOf uF ++ bytesOf (lksW up) ++ bytesOf dF ++ bytesOf (lksW dn)) := hpd
  have HBD : Hid (Bts (imP ⟨nd, uF, up, dF, dn⟩) ∧ (imB ⟨nd, uF, up, dF, dn⟩).length = (imP ⟨nd, uF, up, dF, dn⟩).length + 4 ∧ imB ⟨nd, uF, up, dF, dn⟩ = sealOf (imP ⟨nd, uF, up, dF, dn⟩)) := ⟨hpb, hbl, hbd⟩
  generalize imB ⟨nd, uF, up, dF, dn⟩ = Bq at *
  generalize imP ⟨nd, uF, up, dF, dn⟩ = P at *
  have v1 : IntKind.u32.wrap (nd.length : Int) = (nd.length : Int) := by rw [IntKind.wrap_u32]; omega
  have v2 : IntKind.u32.wrap (up.length : Int) = (up.length : Int) := by rw [IntKind.wrap_u32]; omega
  have v3 : IntKind.u32.wrap (dn.length : Int) = (dn.length : Int) := by rw [IntKind.wrap_u32]; omega
  obtain ⟨P1, hP1⟩ : ∃ P1, head8 ++ bytesOf [nd.length, up.length, dn.length] = P1 := ⟨_, rfl⟩
  have l1 : P1.length ≤ 20 := by rw [← hP1, List.length_append, bytesOf_len]; exact Nat.le_refl _
  have hk3 : ∀ x ∈ [nd.length, up.length, dn.length], x < 4294967296 := fun x hx => by
    simp only [List.mem_cons, List.not_mem_nil, or_false] at hx
    rcases hx with rfl | rfl | rfl <;> omega
  have HPA : Hid (∀ (y1 : World) (o1 : Option Addr) (d1 : Nat), Below W0.heap.size W0 y1 → HasB y1 (.slice o1 8 d1) head8 ∧ (o1 = none → d1 = 0) → HasW y1 (.slice (some ⟨W0.heap.size, 0, none⟩) 3 3) [nd.length, up.length, dn.length] → Calls Tryd.prog 41 #[.slice o1 8 d1, .slice (some ⟨W0.heap.size, 0, none⟩) 3 3] y1 fun e w' => ∃ mo mc, e = .returned (.slice mo P1.length mc) ∧ (HasB w' (.slice mo P1.length mc) P1 ∧ (mo = none → mc = 0)) ∧ Below W0.heap.size W0 w') := fun y1 o1 d1 h1 h2 h3 => by
    refine (vPutW_any o1 _ d1 3 head8 [nd.length, up.length, dn.length] y1 h2.1 h3 (by show 8 + 4 * 3 ≤ _; omega) h2.2 hk3).mono ?_
    rintro e w' ⟨mo, mc, rfl, hh, hb⟩
    rw [hP1] at hh ⊢
    exact ⟨mo, mc, rfl, hh, btrI h1 hb⟩
  have HPB : Hid (∀ (y1 : World) (o1 : Option Addr) (d1 : Nat), Below W0.heap.size W0 y1 → HasB y1 (.slice o1 8 d1) head8 ∧ (o1 = none → d1 = 0) → Calls Tryd.prog 41 #[.slice o1 8 d1, .slice (some ⟨y1.heap.size, 0, none⟩) 3 3] (y1.alloc (.cells #[.int .u32 (nd.length : Int), .int .u32 (up.length : Int), .int .u32 (dn.length : Int)] 42)) fun e w' => ∃ mo mc, e = .returned (.slice mo P1.length mc) ∧ (HasB w' (.slice mo P1.length mc) P1 ∧ (mo = none → mc = 0)) ∧ Below W0.heap.size W0 w') := fun y1 o1 d1 h1 h2 => by
    have b1 : Below y1.heap.size y1 (y1.alloc (.cells #[.int .u32 (nd.length : Int), .int .u32 (up.length : Int), .int .u32 (dn.length : Int)] 42)) := (Below.refl _ _).alloc (Nat.le_refl _) _
    refine (vPutW_any o1 _ d1 3 head8 [nd.length, up.length, dn.length] (y1.alloc (.cells #[.int .u32 (nd.length : Int), .int .u32 (up.length : Int), .int .u32 (dn.length : Int)] 42)) (h2.1.keep b1) (hasW_lit y1 [nd.length, up.length, dn.length] 42) (by show 8 + 4 * 3 ≤ _; omega) h2.2 hk3).mono ?_
    rintro e w' ⟨mo, mc, rfl, hh, hb⟩
    rw [hP1] at hh ⊢
    exact ⟨mo, mc, rfl, hh, btrI (btrI h1 b1) hb⟩
  have H3W : Hid (HasW (W0.alloc (.cells #[.int .u32 (nd.length : Int), .int .u32 (up.length : Int), .int .u32 (dn.length : Int)] 42)) (.slice (some ⟨W0.heap.size, 0, none⟩) 3 3) [nd.length, up.length, dn.length]) := hasW_lit W0 [nd.length, up.length, dn.length] 42
  have HP1 : Hid (head8 ++ bytesOf [nd.length, up.length, dn.length] = P1) := hP1
  clear hP1 hk3
  clear hW0 hB0 hbx hH hpb hbl hbd hpd hws
  unfold Hi.hvl
  simp only
  go_enter Tryd.func22, Tryd.ntmps22
  go_upto_region 1 with fail
  rw [HW0.out]
  go_region_held3 (fun w' => w'.cell? ⟨w.heap.size, 0, none⟩ = some (.slice no nd.length nc) ∧ w'.cell? ⟨w.heap.size, 2, none⟩ = some (.slice ul up.length ulc) ∧ w'.cell? ⟨w.heap.size, 4, none⟩ = some (.slice dl dn.length dlc)) (go_keep) (first
    | (go_at_call 41; (first | (have tk := TK1; clear tk; refine (HPB.out y1 o1 d1 Y1.out.1 Y1.out.2).mono ?_) | (have tk := Y1w; clear tk; refine (HPA.out y1 o1 d1 Y1.out.1 Y1.out.2 Y1w.out).mono ?_)); rintro e y2 ⟨o2, d2, rfl, hh, hb⟩; have Y2 : Hid (Below W0.heap.size W0 y2 ∧ HasB y2 (.slice o2 P1.length d2) P1 ∧ (o2 = none → d2 = 0)) := ⟨hb, hh⟩; clear c0 c1 c2 c3 c4 l0; obtain ⟨⟨c0, c1, c2, c3, c4⟩, l0, _⟩ := HX.out y2 Y2.out.1; clear hh hb)
    | (go_at_call 42; refine (jHead_calls _).mono ?_; rintro e y1 ⟨o1, d1, rfl, ho, hb⟩; (first | (have b1 : Below W0.heap.size W0 y1 := (by with_reducible exact btrI (Below.refl _ _).drew hb); have TK1 : Hid (1 = 1) := rfl) | (have b0 : Below (W0.alloc (.cells #[.int .u32 (nd.length : Int), .int .u32 (up.length : Int), .int .u32 (dn.length : Int)] 42)).heap.size (W0.alloc (.cells #[.int .u32 (nd.length : Int), .int .u32 (up.length : Int), .int .u32 (dn.length : Int)] 42)) y1 := (by with_reducible exact btrI (Below.refl _ _).drew hb); have b1 : Below W0.heap.size W0 y1 := btrI ((Below.refl _ _).alloc (Nat.le_refl _) _) b0; have Y1w : Hid (HasW y1 (.slice (some ⟨W0.heap.size, 0, none⟩) 3 3) [nd.length, up.length, dn.length]) := H3W.out.keep b0; clear b0)); have Y1 : Hid (Below W0.heap.size W0 y1 ∧ HasB y1 (.slice o1 8 d1) head8 ∧ (o1 = none → d1 = 0)) := ⟨b1, hasB_own (l := head8) ho, own_nil ho⟩; clear b1; clear c0 c1 c2 c3 c4 l0; obtain ⟨⟨c0, c1, c2, c3, c4⟩, l0, _⟩ := HX.out y1 Y1.out.1; clear ho hb))
  all_goals
    clear v1 v2 v3
    go_wp2_with fail
    refine (vPutW_any o2 no d2 nc P1 nd y2 Y2.out.2.1 (HWS.out y2 Y2.out.1).1 (by omega) Y2.out.2.2 HOK.out.1).mono ?_
    rintro e y3 ⟨o3, d3, rfl, hh, hb⟩
    obtain ⟨P2, hP2⟩ : ∃ P, P1 ++ bytesOf nd = P := ⟨_, rfl⟩
    have Y3 : Hid (Below W0.heap.size W0 y3 ∧ HasB y3 (.slice o3 P2.length d3) P2 ∧ (o3 = none → d3 = 0)) := by rw [← hP2]; exact ⟨btrI Y2.out.1 hb, hh⟩
    rw [hP2]
    have HP2 : Hid (P1 ++ bytesOf nd = P2) := hP2
    have l2 : P2.length ≤ 300000 := by rw [← hP2, List.length_append, bytesOf_len]; omega
    clear hb hP2 hh c0 c1 c2 c3 c4 l0
    obtain ⟨⟨c0, c1, c2, c3, c4⟩, l0, _⟩ := HX.out y3 Y3.out.1
    go_wp2_with fail
    refine (vPutW_any o3 uo d3 uc P2 uF y3 Y3.out.2.1 (HWS.out y3 Y3.out.1).2.1 (by omega) Y3.out.2.2 HOK.out.2.1).mono ?_
    rintro e y4 ⟨o4, d4, rfl, hh, hb⟩
    obtain ⟨P3, hP3⟩ : ∃ P, P2 ++ bytesOf uF = P := ⟨_, rfl⟩
    have Y4 : Hid (Below W0.heap.size W0 y4 ∧ HasB y4 (.slice o4 P3.length d4) P3 ∧ (o4 = none → d4 = 0)) := by rw [← hP3]; exact ⟨btrI Y3.out.1 hb, hh⟩
    rw [hP3]
    have HP3 : Hid (P2 ++ bytesOf uF = P3) := hP3
    have l3 : P3.length ≤ 600000 := by rw [← hP3, List.length_append, bytesOf_len]; omega
    clear hb hP3 hh c0 c1 c2 c3 c4 l0
    obtain ⟨⟨c0, c1, c2, c3, c4⟩, l0, _⟩ := HX.out y4 Y4.out.1
    go_wp2_with fail
    refine (jLinks_calls o4 d4 P3 ul ulc up y4 Y4.out.2.1 Y4.out.2.2 (HX.out y4 Y4.out.1).2.2.2.up (by omega) (by omega)).mono ?_
    rintro e y5 ⟨o5, d5, rfl, h1, h2, hb⟩
    obtain ⟨P4, hP4⟩ : ∃ P, P3 ++ bytesOf (lksW up) = P := ⟨_, rfl⟩
    have Y5 : Hid (Below W0.heap.size W0 y5 ∧ HasB y5 (.slice o5 P4.length d5) P4 ∧ (o5 = none → d5 = 0)) := by rw [← hP4]; exact ⟨btrI Y4.out.1 hb, ⟨h1, h2⟩⟩
    rw [hP4]
    have HP4 : Hid (P3 ++ bytesOf (lksW up) = P4) := hP4
    have l4 : P4.length ≤ 30000000 := by rw [← hP4, List.length_append, bytesOf_len, lksW_len]; omega
    clear hb hP4 h1 h2 c0 c1 c2 c3 c4 l0
    obtain ⟨⟨c0, c1, c2, c3, c4⟩, l0, _⟩ := HX.out y5 Y5.out.1
    go_wp2_with fail
    refine (vPutW_any o5 wo d5 wc P4 dF y5 Y5.out.2.1 (HWS.out y5 Y5.out.1).2.2 (by omega) Y5.out.2.2 HOK.out.2.2).mono ?_
    rintro e y6 ⟨o6, d6, rfl, hh, hb⟩
    obtain ⟨P5, hP5⟩ : ∃ P, P4 ++ bytesOf dF = P := ⟨_, rfl⟩
    have Y6 : Hid (Below W0.heap.size W0 y6 ∧ HasB y6 (.slice o6 P5.length d6) P5 ∧ (o6 = none → d6 = 0)) := by rw [← hP5]; exact ⟨btrI Y5.out.1 hb, hh⟩
    rw [hP5]
    have HP5 : Hid (P4 ++ bytesOf dF = P5) := hP5
    have l5 : P5.length ≤ 31000000 := by rw [← hP5, List.length_append, bytesOf_len]; omega
    clear hb hP5 hh c0 c1 c2 c3 c4 l0
    obtain ⟨⟨c0, c1, c2, c3, c4⟩, l0, _⟩ := HX.out y6 Y6.out.1
    go_wp2_with fail
    refine (jLinks_calls o6 d6 P5 dl dlc dn y6 Y6.out.2.1 Y6.out.2.2 (HX.out y6 Y6.out.1).2.2.2.dn (by omega) (by omega)).mono ?_
    rintro e y7 ⟨o7, d7, rfl, h1, h2, hb⟩
    obtain ⟨P6, hP6⟩ : ∃ P, P5 ++ bytesOf (lksW dn) = P := ⟨_, rfl⟩
    have Y7 : Hid (Below W0.heap.size W0 y7 ∧ HasB y7 (.slice o7 P6.length d7) P6 ∧ (o7 = none → d7 = 0)) := by rw [← hP6]; exact ⟨btrI Y6.out.1 hb, ⟨h1, h2⟩⟩
    rw [hP6]
    have HP6 : Hid (P5 ++ bytesOf (lksW dn) = P6) := hP6
    have l6 : P6.length ≤ 62000000 := by rw [← hP6, List.length_append, bytesOf_len, lksW_len]; omega
    clear hb hP6 h1 h2 c0 c1 c2 c3 c4 l0
    obtain ⟨⟨c0, c1, c2, c3, c4⟩, l0, _⟩ := HX.out y7 Y7.out.1
    have eP : P = P6 := by rw [HPD.out, ← HP6.out, ← HP5.out, ← HP4.out, ← HP3.out, ← HP2.out, ← HP1.out]
    have HSL : Hid (Calls Tryd.prog 44 #[.slice o7 P6.length d7] y7 fun e w' => ∃ mo mc, e = .returned (.slice mo Bq.length mc) ∧ w'.ownsRow w.heap.size 5 1 (.slice mo Bq.length mc) Bq.length (bv Bq) ∧ Below w.heap.size w w') := by
      obtain ⟨q1, q2, q3⟩ := HBD.out
      rw [eP] at q1 q2 q3
      refine (kSeal_calls o7 d7 P6 y7 Y7.out.2.1 q1 (by omega) Y7.out.2.2).mono ?_
      rintro e w' ⟨mo, mc, rfl, ho, hb⟩
      rw [← q3, ← q2] at ho
      rw [← q2]
      exact ⟨mo, mc, rfl, bown_base ho (HX.out y7 Y7.out.1).2.2.1.size, btrI (HX.out y7 Y7.out.1).2.2.1 hb⟩
    clear eP
    go_wp2_with fail
    refine HSL.out.mono ?_
    rintro e y8 ⟨o8, d8, rfl, ho, hb⟩
    have Y8 : Hid (y8.ownsRow w.heap.size 5 1 (.slice o8 Bq.length d8) Bq.length (bv Bq) ∧ Below w.heap.size w y8) := ⟨ho, hb⟩
    clear ho hb
    go_wp2
    go_ret
    exact ⟨o8, d8, rfl, Y8.out.1, Y8.out.2⟩
end Go.Proofs.YtamedcnjanichaaDoor

namespace Go.Proofs.YtamedcnjanichaaDoor
open Go.RowKit Go.Extern Cr

attribute [local go_sem] Oper.semAt_some

theorem two_newI (w : World) (X Y : Obj) : ((w.alloc X).alloc Y).heap[w.heap.size]? = some X ∧ ((w.alloc X).alloc Y).heap[w.heap.size + 1]? = some Y ∧ Below w.heap.size w ((w.alloc X).alloc Y) := by
  refine ⟨?_, ?_, ((Below.refl _ w).alloc (Nat.le_refl _) _).alloc (by simp) _⟩
  · rw [Below.heap_alloc _ _ _ (by simp)]; exact heap_new _ _
  · have h := heap_new (w.alloc X) Y
    simpa using h
theorem set2I {w : World} {g : Nat} {c0 c1 v0 v1 : Value} {T : TypeId} (h : w.heap[g]? = some (.cells #[c0, c1] T (0, 0))) : ((w.setCell ⟨g, 0, none⟩ v0).setCell ⟨g, 1, none⟩ v1).heap[g]? = some (.cells #[v0, v1] T (0, 0)) := by
  rw [heap_setCell_same _ g 1 _ T v1 (heap_setCell_same w g 0 _ T v0 h)]
  rfl
theorem below2I {w : World} {g b : Nat} {v0 v1 : Value} (h : b ≤ g) : Below b w ((w.setCell ⟨g, 0, none⟩ v0).setCell ⟨g, 1, none⟩ v1) := ((Below.refl _ w).setCell (p := ⟨g, 0, none⟩) (show b ≤ g from h) _).setCell (p := ⟨g, 1, none⟩) (show b ≤ g from h) _
theorem other2I {w : World} {g j : Nat} {v0 v1 : Value} (h : j ≠ g) : ((w.setCell ⟨g, 0, none⟩ v0).setCell ⟨g, 1, none⟩ v1).heap[j]? = w.heap[j]? := by
  have e : ∀ (w : World) (o : Nat) (v : Value), (w.setCell ⟨g, o, none⟩ v).heap[j]? = w.heap[j]? := fun w o v => by
    first | exact heap_setCell_other _ _ _ _ h | exact heap_setCell_other _ _ _ _ h.symm
  rw [e, e]
theorem cell2I {w : World} {b : Nat} {c0 c1 : Value} {T : TypeId} (h : w.heap[b]? = some (.cells #[c0, c1] T)) : w.cell? ⟨b, 0, none⟩ = some c0 ∧ w.cell? ⟨b, 1, none⟩ = some c1 ∧ w.frozen? ⟨b, 0, none⟩ = false ∧ w.frozen? ⟨b, 1, none⟩ = false := by
  simp [World.cell?, World.frozen?, h]
theorem told_anyI {E : Int × List (Int × Int)} (h : E ≠ (0, [])) : (E.1 != 0 || decide (0 < E.2.length)) = true := by
  obtain ⟨c, ps⟩ := E
  by_cases hc : c = 0
  · subst hc
    cases ps with
    | nil => exact absurd rfl h
    | cons a r => simp
  · simp [hc]
end Go.Proofs.YtamedcnjanichaaDoor
