/- unpack's rankOf (slices.Index of words); cmp.Compare of words, find's closure. slices.BinarySearchFunc of links by their other ends; unpack's find. unpack's find, ups and downs. slices.Backward over what a search has seen: the iterator. unpack's back: the links of a least way, from where it ends back. a drawn region in a round of a range over a function, walked by hand: what holds outside a round holds in it. unpack's back, walked. slices.Concat where a part may be nil; unpack's ups and downs. unpack's ups and downs. a hierarchy's rows rise by their other ends; what a search has seen, as back reads it. unpack's over. (genuw.py) unpack's Path where a way is found. (genux.py) unpack is awake: the law's example. what a link stands for weighs what the link weighs, and follows one another: mathematics. UnpackSums: few; no error against one that is told. the law UnpackSums, walked. (genur.py) -/
import Derived.Test.YtodilocmfdeehaaGreatDoorUaX
import Derived.Test.YtodilocmfdeehaaGreatDoorCbY
import Derived.Test.YtodilocmfdeehaaGreatDoorHrD
import Derived.Test.YtodilocmfdeehaaGreatDoorHrN
import Derived.BigQuiet
import Derived.Lib.AppendZeros
import Derived.Laws.AppendOwnNone
import Derived.Test.YtodilocmfdeehaaGreatDoorHrQ
import Derived.Test.YtodilocmfdeehaaGreatDoorInts
import Derived.Test.YtodilocmfdeehaaGreatDoorHdA
import Derived.Test.YtodilocmfdeehaaGreatDoorHsB
import Derived.Test.YtodilocmfdeehaaGreatDoorSeen
import Derived.Test.YtodilocmfdeehaaGreatDoorHdH
import Derived.Test.YtodilocmfdeehaaGreatDoorHrV
import Derived.Test.YtodilocmfdeehaaGreatDoorUeX
namespace Go.Proofs.YtodilocmfdeehaaGreatDoor.Hi
open Go.RowKit Go.Extern Cb Qy

attribute [local go_sem] Oper.semAt_some

set_option maxRecDepth 100000 in
set_option maxHeartbeats 4000000 in
theorem idx32_calls (ao : Option Addr) (cap : Nat) (l : List Nat) (x r : Nat) (w : World) (h : HasWs w (.slice ao l.length cap) l) (hn : l.length < 4611686018427387904) (hr : l[r]? = some x) (hf : ∀ j, j < r → l[j]? ≠ some x) :
    Calls Tryz.prog 71 #[.slice ao l.length cap, .int .u32 (x : Int)] w fun e w' => e = .returned (.int .i64 (r : Int)) ∧ w' = w := by
  have HL : Hid (HasWs w (.slice ao l.length cap) l ∧ l[r]? = some x ∧ ∀ j, j < r → l[j]? ≠ some x) := ⟨h, hr, hf⟩
  have hrl := (List.getElem?_eq_some_iff.1 hr).1
  clear h hr hf
  go_enter Tryz.func71, Tryz.ntmps71
  go_wp2_with fail
  go_loopw [8] (fun jv wr => ∃ k : Nat, jv = .int .i64 (k : Int) ∧ k ≤ r ∧ Hid (wr = w)) (fun jv _ => r + 1 - (intOf jv).toNat)
  case atStart => exact ⟨0, rfl, Nat.zero_le _, by first | exact True.intro | exact rfl⟩
  case round =>
    obtain ⟨k, rfl, hk, HE⟩ := hrel
    have hE := HE.out.symm
    clear HE
    subst hE
    obtain ⟨a, ha⟩ : ∃ a, l[k]? = some a := ⟨l[k]'(by omega), List.getElem?_eq_getElem _⟩
    obtain ⟨hok, b, off, rfl, bl, c0⟩ := ws_get HL.out.1 ha
    have i1 : (0 : Int) ≤ (k : Int) := by omega
    have i2 : (k : Int) < (l.length : Int) := by omega
    have w1 : IntKind.i64.wrap ((k : Int) + 1) = (k : Int) + 1 := by rw [IntKind.wrap_i64] <;> omega
    rcases Nat.lt_or_ge k r with hlt | hge
    · have hne : a ≠ x := fun e => HL.out.2.2 k hlt (by rw [← e]; exact ha)
      have f1 : ((x : Int) == (a : Int)) = false := by simp; omega
      have f2 : (x == a) = false := by simp; omega
      clear ha hok hne
      go_wp2
      go_roundw
      case rel => exact ⟨k + 1, by go_num, by omega, by first | exact True.intro | exact rfl⟩
      case measure => simp [intOf]; omega
    · obtain rfl : k = r := by omega
      obtain rfl : a = x := by rw [HL.out.2.1] at ha; exact (Option.some.inj ha).symm
      clear ha hok
      go_wp2
      go_ret
      exact ⟨rfl, rfl⟩

theorem node_rank {h : Hr} (hc : chk h = (0, [])) {s : Nat} (hs : s < h.node.length) : h.node[rankOf h s]? = some s ∧ ∀ j, j < rankOf h s → h.node[j]? ≠ some s := by
  obtain ⟨r, hr, e⟩ := node_has (chk_ok hc).2.2.2.2.2.2.1 hs
  have e2 := rank_of hc hr
  rw [e] at e2
  rw [e2]
  refine ⟨by rw [nth_get hr, e], fun j hj he => ?_⟩
  have hjl := (List.getElem?_eq_some_iff.1 he).1
  have e3 := rank_of hc hjl
  rw [nth_of he, e2] at e3
  omega

set_option maxRecDepth 100000 in
set_option maxHeartbeats 2000000 in
theorem urank_calls (v : HV) (h : Hr) (s : Nat) (w : World) (hH : HasH w v h) (hc : chk h = (0, [])) (hs : s < h.node.length) :
    Calls Tryz.prog 41 #[hvl v h, .int .i64 (s : Int)] w fun e w' => e = .returned (.int .i64 (rankOf h s : Int)) ∧ Below w.heap.size w w' := by
  obtain ⟨W0, hW0⟩ : ∃ W0, w.alloc (.cells #[.slice v.no h.node.length v.nc, .slice v.uo h.upF.length v.uc, .slice v.ul h.up.length v.ulc, .slice v.wo h.dnF.length v.wc, .slice v.dl h.dn.length v.dlc] 25) = W0 := ⟨_, rfl⟩
  have HW0 : Hid (w.alloc (.cells #[.slice v.no h.node.length v.nc, .slice v.uo h.upF.length v.uc, .slice v.ul h.up.length v.ulc, .slice v.wo h.dnF.length v.wc, .slice v.dl h.dn.length v.dlc] 25) = W0) := hW0
  have hB0 : Below w.heap.size w W0 := by rw [← hW0]; exact (Below.refl _ _).alloc (Nat.le_refl _) _
  have hbx : W0.heap[w.heap.size]? = some (.cells #[.slice v.no h.node.length v.nc, .slice v.uo h.upF.length v.uc, .slice v.ul h.up.length v.ulc, .slice v.wo h.dnF.length v.wc, .slice v.dl h.dn.length v.dlc] 25) := by rw [← hW0]; exact heap_newW _ _
  obtain ⟨c0, c1, c2, c3, c4⟩ := five_cells hbx
  have l0 := some_lt hbx
  have HB0 : Hid (Below w.heap.size w W0) := hB0
  have hnl := (chk_ok hc).1
  have HI : Hid (Calls Tryz.prog 71 #[.slice v.no h.node.length v.nc, .int .u32 (s : Int)] W0 fun e w' => e = .returned (.int .i64 (rankOf h s : Int)) ∧ w' = W0) := idx32_calls _ _ _ s _ W0 (hH.keep hB0).node (by omega) (node_rank hc hs).1 (node_rank hc hs).2
  have x1 : IntKind.u32.wrap (s : Int) = (s : Int) := by rw [IntKind.wrap_u32] <;> omega
  clear hW0 hB0 hbx hH hc
  unfold hvl
  go_enter Tryz.func41, Tryz.ntmps41
  go_upto_region 1 with fail
  rw [HW0.out]
  go_wp2_with fail
  refine HI.out.mono ?_
  rintro e y ⟨rfl, hy⟩
  have hy' := hy.symm
  clear hy
  subst hy'
  go_wp2
  go_ret
  exact ⟨rfl, HB0.out⟩

/-- how two words stand to one another. -/
def cmpW (a b : Nat) : Int := if a < b then -1 else if b < a then 1 else 0
set_option maxRecDepth 100000 in
set_option maxHeartbeats 2000000 in
theorem cmp32_calls (a b : Nat) (w : World) : Calls Tryz.prog 117 #[.int .u32 (a : Int), .int .u32 (b : Int)] w fun e w' => e = .returned (.int .i64 (cmpW a b)) ∧ w' = w := by
  have HN : Hid (∀ (x : Int) wx, Calls Tryz.prog 122 #[.int .u32 x] wx fun e w' => e = .returned (.bool false) ∧ w' = wx) := fun x wx => cnan32_calls x wx
  unfold cmpW
  go_enter Tryz.func117, Tryz.ntmps117
  go_wp2_with fail
  refine (HN.out (a : Int) w).mono ?_
  rintro e y ⟨rfl, hy⟩
  have hy' := hy.symm
  clear hy
  subst hy'
  go_wp2_with fail
  refine (HN.out (b : Int) w).mono ?_
  rintro e y ⟨rfl, hy⟩
  have hy' := hy.symm
  clear hy
  subst hy'
  rcases Nat.lt_trichotomy a b with h1 | h1 | h1
  · have f1 : decide ((a : Int) < (b : Int)) = true := decide_eq_true (by omega)
    have f2 : decide (a < b) = true := decide_eq_true h1
    go_wp2
    go_ret
    exact ⟨rfl, rfl⟩
  · subst h1
    have f1 : decide ((a : Int) < (a : Int)) = false := decide_eq_false (by omega)
    have f2 : decide (a < a) = false := decide_eq_false (by omega)
    go_wp2
    go_ret
    exact ⟨rfl, rfl⟩
  · have f1 : decide ((a : Int) < (b : Int)) = false := decide_eq_false (by omega)
    have f2 : decide (a < b) = false := decide_eq_false (by omega)
    have f3 : decide ((b : Int) < (a : Int)) = true := decide_eq_true (by omega)
    have f4 : decide (b < a) = true := decide_eq_true h1
    go_wp2
    go_ret
    exact ⟨rfl, rfl⟩
set_option maxRecDepth 100000 in
set_option maxHeartbeats 2000000 in
theorem find1_calls (l : Lk) (x : Nat) (w : World) : Calls Tryz.prog 116 #[.agg #[.int .u32 (l.hd : Int), .int .u64 (l.wt : Int), .int .u32 (l.lf : Int), .int .u32 (l.rt : Int)], .int .u32 (x : Int)] w fun e w' => e = .returned (.int .i64 (cmpW l.hd x)) ∧ Below w.heap.size w w' := by
  have HC : Hid (∀ wx, Calls Tryz.prog 117 #[.int .u32 (l.hd : Int), .int .u32 (x : Int)] wx fun e w' => e = .returned (.int .i64 (cmpW l.hd x)) ∧ w' = wx) := fun wx => cmp32_calls l.hd x wx
  obtain ⟨c, hc⟩ : ∃ c, cmpW l.hd x = c := ⟨_, rfl⟩
  rw [hc] at HC ⊢
  clear hc
  go_enter Tryz.func116, Tryz.ntmps116
  go_wp2_with fail
  refine (HC.out _).mono ?_
  rintro e y ⟨rfl, rfl⟩
  go_wp2
  go_ret
  exact ⟨rfl, (Below.refl _ _).alloc (Nat.le_refl _) _⟩
end Go.Proofs.YtodilocmfdeehaaGreatDoor.Hi

namespace Go.Proofs.YtodilocmfdeehaaGreatDoor.Hi
open Go.RowKit Go.Extern Cb

attribute [local go_sem] Oper.semAt_some

def hds (L : List Lk) : List Nat := L.map fun l => l.hd
theorem hds_get {L : List Lk} {j : Nat} {l : Lk} (h : L[j]? = some l) : (hds L)[j]? = some l.hd := by unfold hds; rw [List.getElem?_map, h]; rfl
theorem hds_inv {L : List Lk} {j a : Nat} (h : (hds L)[j]? = some a) : ∃ l, L[j]? = some l ∧ l.hd = a := by
  unfold hds at h
  rw [List.getElem?_map] at h
  cases hl : L[j]? with
  | none => rw [hl] at h; cases h
  | some l => rw [hl] at h; exact ⟨l, rfl, Option.some.inj h⟩
theorem hds_len (L : List Lk) : (hds L).length = L.length := by simp [hds]
/-- is there a link to x in a row? -/
def hitL (L : List Lk) (x : Nat) : Bool := decide ((hds L)[below32 (hds L) x]? = some x)
theorem cmpW_lt (a b : Nat) : decide (cmpW a b < 0) = decide (a < b) := by
  unfold cmpW
  by_cases h : a < b
  · rw [if_pos h]; simp [h]
  · rw [if_neg h]
    by_cases h2 : b < a
    · rw [if_pos h2]; simp [h]
    · rw [if_neg h2]; simp [h]
theorem cmpW_eq (a b : Nat) : (cmpW a b == 0) = decide (a = b) := by
  unfold cmpW
  by_cases h : a < b
  · rw [if_pos h]
    have : a ≠ b := by omega
    simp [this]
  · rw [if_neg h]
    by_cases h2 : b < a
    · rw [if_pos h2]
      have : a ≠ b := by omega
      simp [this]
    · rw [if_neg h2]
      have : a = b := by omega
      simp [this]

set_option maxRecDepth 100000 in
set_option maxHeartbeats 8000000 in
theorem bsl_calls (ao : Option Addr) (cap : Nat) (L : List Lk) (x : Nat) (w : World) (h : HasLs w (.slice ao L.length cap) L) (hs : (hds L).Pairwise (· ≤ ·)) (hn : L.length < 1152921504606846976) :
    Calls Tryz.prog 115 #[.slice ao L.length cap, .int .u32 (x : Int), .func (.func 116) #[] #[]] w fun e w' => e = .returned (.tuple #[.int .i64 (below32 (hds L) x : Int), .bool (hitL L x)]) ∧ Below w.heap.size w w' := by
  have HL : Hid ((∀ wx, Below w.heap.size w wx → HasLs wx (.slice ao L.length cap) L) ∧ (hds L).Pairwise (· ≤ ·)) := ⟨fun wx hx => h.keep hx, hs⟩
  have HF : Hid (∀ (l : Lk) wx, Calls Tryz.prog 116 #[.agg #[.int .u32 (l.hd : Int), .int .u64 (l.wt : Int), .int .u32 (l.lf : Int), .int .u32 (l.rt : Int)], .int .u32 (x : Int)] wx fun e w' => e = .returned (.int .i64 (cmpW l.hd x)) ∧ Below wx.heap.size wx w') := fun l wx => find1_calls l x wx
  clear h hs
  go_enter Tryz.func115, Tryz.ntmps115
  go_wp2_with fail
  go_loopw [9, 10] (fun iv jv wr => ∃ lo hi : Nat, iv = .int .i64 (lo : Int) ∧ jv = .int .i64 (hi : Int) ∧ lo ≤ hi ∧ hi ≤ L.length ∧ Hid (Below w.heap.size w wr) ∧ (∀ t a, t < lo → (hds L)[t]? = some a → a < x) ∧ (∀ t a, hi ≤ t → (hds L)[t]? = some a → x ≤ a)) (fun iv jv _ => (intOf jv).toNat - (intOf iv).toNat)
  case atStart => exact ⟨0, L.length, rfl, rfl, Nat.zero_le _, Nat.le_refl _, Below.refl _ _, fun t a ht => by omega, fun t a ht ha => by have := (List.getElem?_eq_some_iff.1 ha).1; rw [hds_len] at this; omega⟩
  case round =>
    obtain ⟨lo, hi, rfl, rfl, hlh, hhl, HB, h1, h2⟩ := hrel
    have HI : Hid ((∀ t a, t < lo → (hds L)[t]? = some a → a < x) ∧ (∀ t a, hi ≤ t → (hds L)[t]? = some a → x ≤ a)) := ⟨h1, h2⟩
    clear h1 h2
    by_cases hlt : lo < hi
    · obtain ⟨m, hm⟩ : ∃ m, (lo + hi) / 2 = m := ⟨_, rfl⟩
      have hm1 : lo ≤ m ∧ m < hi := by omega
      have hm2 : ((lo : Int) + (hi : Int)) / 2 = (m : Int) := by omega
      obtain ⟨l, hl⟩ : ∃ l, L[m]? = some l := ⟨L[m]'(by omega), List.getElem?_eq_getElem _⟩
      obtain ⟨hok, b, off, rfl, bl, c0, c1, c2, c3⟩ := (HL.out.1 wr HB.out).at hl
      have HA : Hid ((hds L)[m]? = some l.hd) := hds_get hl
      have i1 : (0 : Int) ≤ (m : Int) := by omega
      have i2 : (m : Int) < (L.length : Int) := by omega
      have v1 : IntKind.i64.wrap ((lo : Int) + (hi : Int)) = (lo : Int) + (hi : Int) := by rw [IntKind.wrap_i64] <;> omega
      have v2 : IntKind.i64.wrap (m : Int) = (m : Int) := by rw [IntKind.wrap_i64] <;> omega
      clear hl hok hm
      go_wp2_with fail
      refine (HF.out l wr).mono ?_
      rintro e y ⟨rfl, hy⟩
      have HY : Hid (Below w.heap.size w y) := HB.out.trans (hy.mono HB.out.size)
      have f0 := cmpW_lt l.hd x
      clear hy c0 c1 c2 c3 bl
      by_cases hax : l.hd < x
      · rw [decide_eq_true hax] at f0
        have HN : Hid (∀ t c, t < m + 1 → (hds L)[t]? = some c → c < x) := fun t c ht hta => by
          rcases Nat.lt_or_ge t m with h | h
          · have := pair_le HL.out.2 hta HA.out h
            omega
          · obtain rfl : t = m := by omega
            rw [HA.out] at hta
            cases hta
            exact hax
        go_wp2
        go_roundw
        case rel => exact ⟨m + 1, hi, by go_num, rfl, by omega, hhl, HY.out, HN.out, HI.out.2⟩
        case measure => simp [intOf]; omega
      · rw [decide_eq_false hax] at f0
        have HN : Hid (∀ t c, m ≤ t → (hds L)[t]? = some c → x ≤ c) := fun t c ht hta => by
          rcases Nat.lt_or_ge m t with h | h
          · have := pair_le HL.out.2 HA.out hta h
            omega
          · obtain rfl : t = m := by omega
            rw [HA.out] at hta
            cases hta
            omega
        go_wp2
        go_roundw
        case rel => exact ⟨lo, m, rfl, rfl, by omega, by omega, HY.out, HI.out.1, HN.out⟩
        case measure => simp [intOf]; omega
    · obtain rfl : lo = hi := by omega
      have HLO : Hid (below32 (hds L) x = lo) := below32_at (by rw [hds_len]; exact hhl) HI.out.1 HI.out.2
      have q0 : decide ((lo : Int) < (lo : Int)) = false := by simp
      by_cases hlt2 : lo < L.length
      · obtain ⟨l, hl⟩ : ∃ l, L[lo]? = some l := ⟨L[lo]'hlt2, List.getElem?_eq_getElem _⟩
        obtain ⟨hok, b, off, rfl, bl, c0, c1, c2, c3⟩ := (HL.out.1 wr HB.out).at hl
        have l1 : (lo : Int) < (L.length : Int) := by omega
        have l2 : (0 : Int) ≤ (lo : Int) := by omega
        have l3 : decide ((lo : Int) < (L.length : Int)) = true := decide_eq_true l1
        have l4 : decide (lo < L.length) = true := decide_eq_true hlt2
        have HT : Hid (hitL L x = decide (l.hd = x)) := by
          show hitL L x = _
          unfold hitL
          rw [HLO.out, hds_get hl]
          simp
        clear hl hok
        go_wp2_with fail
        refine (HF.out l wr).mono ?_
        rintro e y ⟨rfl, hy⟩
        have HY : Hid (Below w.heap.size w y) := HB.out.trans (hy.mono HB.out.size)
        have f0 := cmpW_eq l.hd x
        clear hy c0 c1 c2 c3 bl
        go_wp2
        go_ret2
        rw [HLO.out, HT.out]
        exact ⟨rfl, HY.out⟩
      · have l3 : decide ((lo : Int) < (L.length : Int)) = false := decide_eq_false (by omega)
        have l4 : decide (lo < L.length) = false := decide_eq_false hlt2
        have HT : Hid (hitL L x = false) := by
          show hitL L x = _
          unfold hitL
          rw [HLO.out, List.getElem?_eq_none (by rw [hds_len]; omega)]
          simp
        go_wp2
        go_ret2
        rw [HLO.out, HT.out]
        exact ⟨rfl, HB.out⟩
end Go.Proofs.YtodilocmfdeehaaGreatDoor.Hi

namespace Go.Proofs.YtodilocmfdeehaaGreatDoor.Hi
open Go.RowKit Go.Extern Cb

attribute [local go_sem] Oper.semAt_some

theorem cut_lksI (lo : Option Addr) (n cap i j : Nat) (hij : i ≤ j) (hj : j ≤ cap) : ∃ so, (i < j → ∀ b off, lo = some ⟨b, off, none⟩ → so = some ⟨b, off + i * 4, none⟩) ∧ ∀ w, (Instr.slice 23 (.slice lo n cap) (some (.int .i64 (i : Int))) (some (.int .i64 (j : Int))) none).run Tryz.prog w = .ok (.slice so (j - i) (cap - i)) w := by
  have e1 : (i : Int).toNat = i := by omega
  have e2 : (j : Int).toNat = j := by omega
  refine ⟨if cap = i then lo else lo.map (·.add (i * 4)), fun h b off e => ?_, fun w => ?_⟩
  · rw [if_neg (by omega), e]
    simp [Addr.add]
  · rw [run_slice_lh (ht := Tryz.elemLk) (h0 := by omega) (h1 := by omega) (h2 := by omega), Tryz.sizeLk]
    simp only [Result.andThen_ok, sliced, e1, e2]

set_option maxRecDepth 100000 in
set_option maxHeartbeats 4000000 in
theorem ufind_calls (fo lo : Option Addr) (fc lc : Nat) (F : List Nat) (Ls : List Lk) (fr r x : Nat) (w : World) (hF : FOk F Ls.length) (hr : r + 1 < F.length) (hn : F.length ≤ 65537) (hm : Ls.length ≤ 1048576) (hx : x < 65536) (hfs : HasWs w (.slice fo F.length fc) F) (hls : HasLs w (.slice lo Ls.length lc) Ls) (hs : (hds (rowL F Ls r)).Pairwise (· ≤ ·)) :
    Calls Tryz.prog 97 #[.agg #[.slice fo F.length fc, .slice lo Ls.length lc, .int .i64 (fr : Int)], .int .i64 (r : Int), .int .i64 (x : Int)] w fun e w' => e = .returned (.tuple #[.int .i64 ((nth F r + below32 (hds (rowL F Ls r)) x : Nat) : Int), .bool (hitL (rowL F Ls r) x)]) ∧ Below w.heap.size w w' := by
  obtain ⟨fb, foff, e1, _, hc⟩ := hfs.cells (by omega)
  subst e1
  have sx := hfs.small r
  have sy := hfs.small (r + 1)
  have hxy := hF.le r hr
  have hyL := hF.atmost (a := r + 1) hr
  have hcapL := hls.cap
  obtain ⟨z, hz⟩ : ∃ z, w.heap.size = z := ⟨_, rfl⟩
  obtain ⟨W0, hW0⟩ : ∃ W0, w.alloc (.cells #[.slice (some ⟨fb, foff, none⟩) F.length fc, .slice lo Ls.length lc, .int .i64 (fr : Int)] 136) = W0 := ⟨_, rfl⟩
  have hB : Below w.heap.size w W0 := by rw [← hW0]; exact (Below.refl _ _).alloc (Nat.le_refl _) _
  have g1 : W0.heap[z]? = some (.cells #[.slice (some ⟨fb, foff, none⟩) F.length fc, .slice lo Ls.length lc, .int .i64 (fr : Int)] 136) := by rw [← hW0, ← hz]; exact heap_newW _ _
  have hfs0 := hfs.keep hB
  obtain ⟨fb', foff', e2, _, hc0⟩ := hfs0.cells (by omega)
  cases e2
  have ca := hc0 r (by omega)
  have cb := hc0 (r + 1) (by omega)
  obtain ⟨d0, d1, d2⟩ : W0.cell? ⟨z, 0, none⟩ = some (.slice (some ⟨fb, foff, none⟩) F.length fc) ∧ W0.cell? ⟨z, 1, none⟩ = some (.slice lo Ls.length lc) ∧ W0.cell? ⟨z, 2, none⟩ = some (.int .i64 (fr : Int)) := by simp [World.cell?, g1]
  obtain ⟨so, hso, hcut⟩ := cut_lksI lo Ls.length lc (nth F r) (nth F (r + 1)) hxy (by omega)
  have hlc := ls_cut hF hr (hls.keep hB) hso
  have hle := below32_le (hds (rowL F Ls r)) x
  rw [hds_len, hlc.1] at hle
  have hBS := fun wx (hwx : Below W0.heap.size W0 wx) => bsl_calls so (lc - nth F r) (rowL F Ls r) x wx (by rw [hlc.1]; exact hlc.2.keep hwx) hs (by rw [hlc.1]; omega)
  rw [hlc.1] at hBS
  have HW0 : Hid (w.alloc (.cells #[.slice (some ⟨fb, foff, none⟩) F.length fc, .slice lo Ls.length lc, .int .i64 (fr : Int)] 136) = W0) := hW0
  have HB0 : Hid (Below w.heap.size w W0) := hB
  obtain ⟨N, hN⟩ : ∃ N, F.length = N := ⟨_, rfl⟩
  have r1 : (r : Int) < (N : Int) := by omega
  have r2 : (r : Int) + 1 < (N : Int) := by omega
  have r0 : (0 : Int) ≤ (r : Int) := by omega
  have r3 : (0 : Int) ≤ (r : Int) + 1 := by omega
  have x1 : IntKind.i64.wrap ((r : Int) + 1) = (r : Int) + 1 := by rw [IntKind.wrap_i64] <;> omega
  have x2 : IntKind.u32.wrap (x : Int) = (x : Int) := by rw [IntKind.wrap_u32] <;> omega
  obtain ⟨p, hp⟩ : ∃ p, nth F r = p := ⟨_, rfl⟩
  obtain ⟨q, hq⟩ : ∃ q, nth F (r + 1) = q := ⟨_, rfl⟩
  obtain ⟨B, hBb⟩ : ∃ B, below32 (hds (rowL F Ls r)) x = B := ⟨_, rfl⟩
  obtain ⟨ht, hht⟩ : ∃ ht, hitL (rowL F Ls r) x = ht := ⟨_, rfl⟩
  rw [hp, hq] at hcut hBS
  rw [hp] at ca
  rw [hq] at cb
  rw [hBb] at hle hBS
  rw [hht] at hBS
  rw [hp, hq] at hle
  rw [hp, hBb, hht]
  rw [hN] at d0 HW0
  rw [hN]
  have HBS : Hid (type_of% hBS) := hBS
  have hpl : p ≤ 1048576 := by omega
  have hql : q ≤ 1048576 := by omega
  have x3 : IntKind.i64.wrap (p : Int) = (p : Int) := by rw [IntKind.wrap_i64] <;> omega
  have x4 : IntKind.i64.wrap (q : Int) = (q : Int) := by rw [IntKind.wrap_i64] <;> omega
  have x5 : IntKind.i64.wrap ((p : Int) + (B : Int)) = (p : Int) + (B : Int) := by rw [IntKind.wrap_i64] <;> omega
  have x6 : ((p + B : Nat) : Int) = (p : Int) + (B : Int) := by omega
  rw [x6]
  clear hso hfs hls hF hB g1 hc hc0 hfs0 sx sy hxy hyL hcapL hp hq hN hW0 hBb hht hBS hlc hle hs x6
  go_enter Tryz.func97, Tryz.ntmps97
  go_upto_region 1 with fail
  rw [HW0.out]
  go_quiet (fail)
  go_wp2_with fail
  have hdq : ∀ k, Below W0.heap.size W0 (W0.drewN k) := fun k => ⟨rfl, rfl, rfl, Nat.le_refl _, fun _ _ => rfl⟩
  refine (HBS.out _ (hdq _)).mono ?_
  rintro e y ⟨rfl, hy⟩
  have HY : Hid (Below W0.heap.size W0 y) := btrU (hdq _) hy
  clear hy d0 d1 d2 ca cb
  go_wp2
  go_ret2
  exact ⟨rfl, HB0.out.trans (HY.out.mono HB0.out.size)⟩
end Go.Proofs.YtodilocmfdeehaaGreatDoor.Hi

namespace Go.Proofs.YtodilocmfdeehaaGreatDoor.Hi
open Go.RowKit Go.Extern Cb

attribute [local go_sem] Oper.semAt_some

/-- what a search has seen, in memory. -/
def HasSn (w : World) (so : Option Addr) (X : List (Nat × Int × Bool)) : Prop := ∀ (j : Nat) (x : Nat × Int × Bool), X[j]? = some x → ∃ b off, so = some ⟨b, off, none⟩ ∧ b < w.heap.size ∧ w.cell? ⟨b, off + j * 3, none⟩ = some (.int .i64 (x.1 : Int)) ∧ w.cell? ⟨b, off + j * 3 + 1, none⟩ = some (.int .u64 x.2.1) ∧ w.cell? ⟨b, off + j * 3 + 2, none⟩ = some (.bool x.2.2)
/-- what comes up, from behind. -/
def bkw (X : List (Nat × Int × Bool)) : List (Nat × Nat × Int × Bool) := (List.range X.length).map fun k => (X.length - 1 - k, X.getD (X.length - 1 - k) (0, 0, false))
theorem bkw_len (X : List (Nat × Int × Bool)) : (bkw X).length = X.length := by simp [bkw]
theorem bkw_at {X : List (Nat × Int × Bool)} {k : Nat} {x : Nat × Int × Bool} (hk : k < X.length) (hx : X[X.length - 1 - k]? = some x) : (bkw X)[k]? = some (X.length - 1 - k, x) := by
  unfold bkw
  rw [List.getElem?_map, List.getElem?_range hk]
  simp [List.getD_eq_getElem?_getD, hx]
def encB (x : Nat × Nat × Int × Bool) : Array Value := #[.int .i64 (x.1 : Int), .agg #[.int .i64 (x.2.1 : Int), .int .u64 x.2.2.1, .bool x.2.2.2]]
/-- what the iterator reads. -/
structure MemB (B1 : Nat) (so : Option Addr) (sc : Nat) (X : List (Nat × Int × Bool)) (W : World) : Prop where
  b1 : Boxed W B1 131 (.slice so X.length sc)
  sn : HasSn W so X

set_option maxRecDepth 100000 in
set_option maxHeartbeats 4000000 in
theorem backward1_seq (n B1 : Nat) (so : Option Addr) (sc : Nat) (X : List (Nat × Int × Bool)) (hX : X.length ≤ 65536) (B : Nat) :
    SeqT Fence.wide n Tryz.prog 114 #[.pointer (some ⟨B1, 0, none⟩)] encB TnC (MemB B1 so sc X) (bkw X) B := by
  intro l J Jx W _ hJ hJx hM hY h0
  refine callsIn_of_wp Tryz.func114 rfl trivial ?_ rfl
  have HM : Hid (∀ pre W1, J pre W1 → MemB B1 so sc X W1) := hM
  have HY : Hid (∀ pre x W1, J pre W1 → pre ++ [x] <+: bkw X → YieldAt Fence.wide (n - 1) Tryz.prog l (encB x) W1 fun e W' => KeepsT TnC W.heap.size W1 W' ∧ ((e = .returned (.bool true) ∧ J (pre ++ [x]) W') ∨ (e = .returned (.bool false) ∧ Jx (pre ++ [x]) W'))) := hY
  have H0 : Hid (J ((bkw X).take 0) W) := h0
  have c1 := (HM.out _ _ h0).b1.cell
  clear hJ hJx hM hY h0
  simp only [List.size_toArray, List.length_cons, List.length_nil, Tryz.ntmps114, Nat.reduceAdd, Nat.reduceSub, Array.replicate_succ, Array.replicate_zero, List.push_toArray, List.append_toArray, List.nil_append, List.cons_append]
  have w1 : IntKind.i64.wrap ((X.length : Int) - 1) = (X.length : Int) - 1 := by rw [IntKind.wrap_i64] <;> omega
  gi_wp2
  gi_loopw [3] (fun i wr => ∃ k : Nat, k ≤ X.length ∧ i = .int .i64 ((X.length : Int) - 1 - (k : Int)) ∧ Hid (W.heap.size ≤ wr.heap.size) ∧ Hid (J ((bkw X).take k) wr)) (fun i _ => (intOf i + 1).toNat)
  case atStart => exact ⟨0, Nat.zero_le _, by simp, Nat.le_refl _, H0⟩
  case round =>
    obtain ⟨k, hk, rfl, HZ, HJk⟩ := hrel
    generalize hW : wr = W1 at *
    clear hW c1
    rcases Nat.lt_or_eq_of_le hk with h1 | h1
    · have HM1 := HM.out _ _ HJk.out
      have c1 := HM1.b1.cell
      obtain ⟨m, hm⟩ : ∃ m, X.length - 1 - k = m := ⟨_, rfl⟩
      have hmi : (X.length : Int) - 1 - (k : Int) = (m : Int) := by omega
      obtain ⟨x, hx⟩ : ∃ x, X[m]? = some x := ⟨X[m]'(by omega), List.getElem?_eq_getElem _⟩
      obtain ⟨b, off, e1, hb, g0, g1, g2⟩ := HM1.sn m x hx
      subst e1
      have HP : Hid ((bkw X).take k ++ [(m, x)] <+: bkw X ∧ (bkw X).take k ++ [(m, x)] = (bkw X).take (k + 1)) := by
        have e : (bkw X)[k]? = some (m, x) := by rw [← hm] at hx ⊢; exact bkw_at h1 hx
        have e2 : (bkw X).take (k + 1) = (bkw X).take k ++ [(m, x)] := by rw [List.take_add_one, e]; rfl
        exact ⟨by rw [← e2]; exact List.take_prefix _ _, e2.symm⟩
      obtain ⟨fn, tmps, assign, body, hy, hR⟩ := HY.out _ (m, x) _ HJk.out HP.out.1
      obtain ⟨rk, ds, st⟩ := x
      dsimp only at g0 g1 g2
      dsimp only [encB] at hy
      have i1 : (0 : Int) ≤ (m : Int) := by omega
      have i2 : (m : Int) < (X.length : Int) := by omega
      have i3 : decide ((0 : Int) ≤ (m : Int)) = true := by simp
      have i4 : IntKind.i64.wrap ((m : Int) - 1) = (m : Int) - 1 := by rw [IntKind.wrap_i64] <;> omega
      have HMI : Hid ((X.length : Int) - 1 - (k : Int) = (m : Int)) := hmi
      rw [hmi]
      clear HM1 hx hm hmi
      gi_wp2
      refine ⟨fun h => (by cases h), hR.mono ?_⟩
      rintro e W3 ⟨hk3, ⟨rfl, hJ3⟩ | ⟨rfl, hJx3⟩⟩
      · have HJ3 : Hid (J ((bkw X).take (k + 1)) W3) := by rw [← HP.out.2]; exact hJ3
        have HZ3 : Hid (W.heap.size ≤ W3.heap.size) := Nat.le_trans HZ.out hk3.size
        clear hJ3 hk3
        gi_wp2
        go_roundw
        case rel => exact ⟨k + 1, by omega, by have := HMI.out; congr 1; omega, HZ3, HJ3⟩
        case measure => simp [intOf]
      · have HX3 : Hid (Jx ((bkw X).take k ++ [(m, (rk, ds, st))]) W3) := hJx3
        clear hJx3 hk3
        gi_wp2
        refine bodyPost_ret (results_none rfl _ _ _) rfl ?_
        exact ⟨⟨_, rfl⟩, Or.inr ⟨_, HP.out.1, HX3.out⟩⟩
    · subst h1
      have e0 : (X.length : Int) - 1 - (X.length : Int) = -1 := by omega
      rw [e0]
      gi_wp2
      go_end0
      refine ⟨⟨_, rfl⟩, Or.inl ?_⟩
      have := HJk.out
      rwa [List.take_of_length_le (by rw [bkw_len]; exact Nat.le_refl _)] at this
end Go.Proofs.YtodilocmfdeehaaGreatDoor.Hi

namespace Go.Proofs.YtodilocmfdeehaaGreatDoor.Hi
open Go.RowKit Go.Extern Cb

attribute [local go_sem] Oper.semAt_some

/-- one step of the way back: the links so far, the rank where it stands. -/
def bkStep (F : List Nat) (Ls : List Lk) (fr rch : Nat) (s : List Nat × (Nat × Int × Bool)) (x : Nat × Int × Bool) : List Nat × (Nat × Int × Bool) :=
  if rch ≤ x.1 then (s.1, x)
  else if hitL (rowL F Ls x.1) s.2.1 = true ∧ IntKind.u64.wrap (x.2.1 + ((Ls.getD (nth F x.1 + below32 (hds (rowL F Ls x.1)) s.2.1) default).wt : Int)) = s.2.2.1 then (s.1 ++ [fr + (nth F x.1 + below32 (hds (rowL F Ls x.1)) s.2.1)], x)
  else s
/-- all of it. -/
def bkAll (F : List Nat) (Ls : List Lk) (fr rch : Nat) (p : List (Nat × Nat × Int × Bool)) : List Nat × (Nat × Int × Bool) := p.foldl (fun s x => bkStep F Ls fr rch s x.2) ([], (0, 0, false))
theorem bkAll_snoc (F : List Nat) (Ls : List Lk) (fr rch : Nat) (p : List (Nat × Nat × Int × Bool)) (x : Nat × Nat × Int × Bool) : bkAll F Ls fr rch (p ++ [x]) = bkStep F Ls fr rch (bkAll F Ls fr rch p) x.2 := by unfold bkAll; rw [List.foldl_append]; rfl
theorem bkAll_len (F : List Nat) (Ls : List Lk) (fr rch : Nat) : ∀ (p : List (Nat × Nat × Int × Bool)), (bkAll F Ls fr rch p).1.length ≤ p.length := by
  intro p
  have key : ∀ (p : List (Nat × Nat × Int × Bool)) (s : List Nat × (Nat × Int × Bool)), (p.foldl (fun s x => bkStep F Ls fr rch s x.2) s).1.length ≤ s.1.length + p.length := by
    intro p
    induction p with
    | nil => intro s; exact Nat.le_refl _
    | cons x r ih =>
      intro s
      rw [List.foldl_cons]
      refine Nat.le_trans (ih _) ?_
      have : (bkStep F Ls fr rch s x.2).1.length ≤ s.1.length + 1 := by
        unfold bkStep
        split
        · exact Nat.le_succ _
        · split
          · simp
          · exact Nat.le_succ _
      simp only [List.length_cons]
      omega
  have := key p ([], (0, 0, false))
  simpa [bkAll] using this
theorem set_threeU {W : World} {b : Nat} {p q r : Value} {T : TypeId} (h : W.heap[b]? = some (.cells #[p, q, r] T)) (x y u : Value) : (((W.setCell ⟨b, 0, none⟩ x).setCell ⟨b, 1, none⟩ y).setCell ⟨b, 2, none⟩ u).heap[b]? = some (.cells #[x, y, u] T) := by
  have hlt := some_lt h
  simp only [World.setCell, Array.getElem?_modify]
  simp [h]
theorem boxed_setU {W : World} {b : Nat} {T : TypeId} {v : Value} (h : Boxed W b T v) (x : Value) : Boxed (W.setCell ⟨b, 0, none⟩ x) b T x := by
  unfold Boxed at h ⊢
  simp [World.setCell, Array.getElem?_modify, h]
/-- between two rounds. -/
structure BKI (w : World) (z : Nat) (fo lo so : Option Addr) (fc lc sc : Nat) (F : List Nat) (Ls : List Lk) (X : List (Nat × Int × Bool)) (fr rch : Nat) (s : List Nat × (Nat × Int × Bool)) (W : World) : Prop where
  rows : W.heap[z]? = some (.cells #[.slice fo F.length fc, .slice lo Ls.length lc, .int .i64 (fr : Int)] 136)
  rch : Boxed W (z + 1) 3 (.int .i64 (rch : Int))
  way : ∃ u, Boxed W (z + 1 + 1) 28 u ∧ W.ownsRow (z + 1 + 1 + 1 + 1 + 1) 3 1 u s.1.length (iv (zs s.1))
  here : W.heap[z + 1 + 1 + 1]? = some (.cells #[.int .i64 (s.2.1 : Int), .int .u64 s.2.2.1, .bool s.2.2.2] 178)
  box : Boxed W (z + 1 + 1 + 1 + 1) 131 (.slice so X.length sc)
  bl : Below w.heap.size w W
  sz : z + 1 + 1 + 1 + 1 + 1 ≤ W.heap.size
theorem cellsNot {cs : Array Value} {T : TypeId} : ¬ TnC (.cells cs T) := fun h => by cases h
variable {w : World} {z : Nat} {fo lo so : Option Addr} {fc lc sc : Nat} {F : List Nat} {Ls : List Lk} {X : List (Nat × Int × Bool)} {fr rch : Nat} {s : List Nat × (Nat × Int × Bool)} {W W' : World}
theorem own_turn {B n : Nat} {v : Value} {xs : List Value} (h : W.ownsRow B 3 1 v n xs) (hk : ∀ (k : Nat) (o : Obj), W.heap[k]? = some o → ¬ TnC o → W'.heap[k]? = some o) : W'.ownsRow B 3 1 v n xs := by
  rcases h.2 with ⟨e, h0⟩ | ⟨g, cap, cur, e, hg, hh, r⟩
  · exact ⟨h.1, .inl ⟨e, h0⟩⟩
  · exact ⟨h.1, .inr ⟨g, cap, cur, e, hg, hk g _ hh cellsNot, r⟩⟩
theorem BKI.same (h : BKI w z fo lo so fc lc sc F Ls X fr rch s W) (hk : ∀ (k : Nat) (o : Obj), W.heap[k]? = some o → ¬ TnC o → W'.heap[k]? = some o) (hb : Below w.heap.size w W') (hs : W.heap.size ≤ W'.heap.size) : BKI w z fo lo so fc lc sc F Ls X fr rch s W' := by
  obtain ⟨u, h1, h2⟩ := h.way
  exact ⟨hk _ _ h.rows cellsNot, hk _ _ h.rch cellsNot, ⟨u, hk _ _ h1 cellsNot, own_turn h2 hk⟩, hk _ _ h.here cellsNot, hk _ _ h.box cellsNot, hb, Nat.le_trans h.sz hs⟩
theorem BKI.turn {B : Nat} (h : BKI w z fo lo so fc lc sc F Ls X fr rch s W) (hB : w.heap.size ≤ B) (ht : Turn TnC B W W') : BKI w z fo lo so fc lc sc F Ls X fr rch s W' :=
  h.same ht.same (h.bl.trans (ht.below.mono hB)) ht.below.size
theorem BKI.below (h : BKI w z fo lo so fc lc sc F Ls X fr rch s W) (hb : Below W.heap.size W W') : BKI w z fo lo so fc lc sc F Ls X fr rch s W' :=
  h.same (fun k _ hk _ => (hb.block k (some_lt hk)).trans hk) (h.bl.trans (hb.mono h.bl.size)) hb.size

/-- it stands at another rank. -/
theorem BKI.go {B : Nat} (h : BKI w z fo lo so fc lc sc F Ls X fr rch s W) (hz : w.heap.size = z) (x : Nat × Int × Bool) : BKI w z fo lo so fc lc sc F Ls X fr rch (s.1, x) (((W.setCell ⟨z + 1 + 1 + 1, 0, none⟩ (.int .i64 (x.1 : Int))).setCell ⟨z + 1 + 1 + 1, 1, none⟩ (.int .u64 x.2.1)).setCell ⟨z + 1 + 1 + 1, 2, none⟩ (.bool x.2.2)) ∧ KeepsT TnC B W (((W.setCell ⟨z + 1 + 1 + 1, 0, none⟩ (.int .i64 (x.1 : Int))).setCell ⟨z + 1 + 1 + 1, 1, none⟩ (.int .u64 x.2.1)).setCell ⟨z + 1 + 1 + 1, 2, none⟩ (.bool x.2.2)) := by
  have far : ∀ k, k ≠ z + 1 + 1 + 1 → (((W.setCell ⟨z + 1 + 1 + 1, 0, none⟩ (.int .i64 (x.1 : Int))).setCell ⟨z + 1 + 1 + 1, 1, none⟩ (.int .u64 x.2.1)).setCell ⟨z + 1 + 1 + 1, 2, none⟩ (.bool x.2.2)).heap[k]? = W.heap[k]? := fun k hk => (Below.heap_setCell _ _ _ _ (by exact hk)).trans ((Below.heap_setCell _ _ _ _ (by exact hk)).trans (Below.heap_setCell _ _ _ _ (by exact hk)))
  have hs := set_threeU h.here (.int .i64 (x.1 : Int)) (.int .u64 x.2.1) (.bool x.2.2)
  have hsz : (((W.setCell ⟨z + 1 + 1 + 1, 0, none⟩ (.int .i64 (x.1 : Int))).setCell ⟨z + 1 + 1 + 1, 1, none⟩ (.int .u64 x.2.1)).setCell ⟨z + 1 + 1 + 1, 2, none⟩ (.bool x.2.2)).heap.size = W.heap.size := by simp [World.setCell]
  have hb : Below w.heap.size w (((W.setCell ⟨z + 1 + 1 + 1, 0, none⟩ (.int .i64 (x.1 : Int))).setCell ⟨z + 1 + 1 + 1, 1, none⟩ (.int .u64 x.2.1)).setCell ⟨z + 1 + 1 + 1, 2, none⟩ (.bool x.2.2)) := ((h.bl.setCell (p := ⟨z + 1 + 1 + 1, 0, none⟩) (by show w.heap.size ≤ z + 1 + 1 + 1; omega) _).setCell (p := ⟨z + 1 + 1 + 1, 1, none⟩) (by show w.heap.size ≤ z + 1 + 1 + 1; omega) _).setCell (p := ⟨z + 1 + 1 + 1, 2, none⟩) (by show w.heap.size ≤ z + 1 + 1 + 1; omega) _
  generalize ((W.setCell ⟨z + 1 + 1 + 1, 0, none⟩ (.int .i64 (x.1 : Int))).setCell ⟨z + 1 + 1 + 1, 1, none⟩ (.int .u64 x.2.1)).setCell ⟨z + 1 + 1 + 1, 2, none⟩ (.bool x.2.2) = V at *
  obtain ⟨u, h1, h2⟩ := h.way
  refine ⟨⟨(far _ (by omega)).trans h.rows, (far _ (by omega)).trans h.rch, ⟨u, (far _ (by omega)).trans h1, ?_⟩, hs, (far _ (by omega)).trans h.box, hb, by rw [hsz]; exact h.sz⟩, ⟨by rw [hsz]; exact Nat.le_refl _, fun k o _ hk ho => (far k (fun e => by rw [e, h.here] at hk; cases hk; exact cellsNot ho)).trans hk⟩⟩
  exact iown_keep h2 fun k hk => far k (by have := (h2.lt k hk).1; omega)
/-- a link more on the way. -/
theorem BKI.add {B g5 cap5 y : Nat} {w9 : World} {o : Obj} {u : Value} (h : BKI w z fo lo so fc lc sc F Ls X fr rch s W) (hz : w.heap.size = z) (hu : Boxed W (z + 1 + 1) 28 u) (hr : W.ownsRow (z + 1 + 1 + 1 + 1 + 1) 3 1 u s.1.length (iv (zs s.1)))
    (hown : w9.ownsRow (z + 1 + 1 + 1 + 1 + 1) 3 1 (.slice (some ⟨g5, 0, none⟩) (s.1.length + 1) cap5) (s.1.length + 1) (iv (zs s.1) ++ [.int .i64 (y : Int)])) (hg : (W.alloc o).grownBy w9 u.ownBlock) :
    Boxed w9 (z + 1 + 1) 28 u ∧ BKI w z fo lo so fc lc sc F Ls X fr rch (s.1 ++ [y], s.2) (w9.setCell ⟨z + 1 + 1, 0, none⟩ (.slice (some ⟨g5, 0, none⟩) (s.1.length + 1) cap5)) ∧ KeepsT TnC B W (w9.setCell ⟨z + 1 + 1, 0, none⟩ (.slice (some ⟨g5, 0, none⟩) (s.1.length + 1) cap5)) := by
  have hA : Below W.heap.size W (W.alloc o) := (Below.refl _ _).alloc (Nat.le_refl _) _
  have hsz : W.heap.size ≤ w9.heap.size := Nat.le_trans hA.size hg.size
  have far : ∀ k, k < W.heap.size → u.ownBlock ≠ some k → w9.heap[k]? = W.heap[k]? := fun k hk hne => (hg.block k (Nat.lt_of_lt_of_le hk hA.size) (fun e => hne e.symm)).trans (hA.block k hk)
  have low : ∀ k, k < z + 1 + 1 + 1 + 1 + 1 → w9.heap[k]? = W.heap[k]? := fun k hk => far k (by have := h.sz; omega) (fun e => by have := (hr.lt k e).1; omega)
  have hb9 : Below w.heap.size w w9 := grown_below (h.bl.trans (hA.mono h.bl.size)) (iown_keep hr fun k hk => hA.block k (hr.lt k hk).2) (by omega) hg
  have hu9 : Boxed w9 (z + 1 + 1) 28 u := (low _ (by omega)).trans hu
  refine ⟨hu9, ⟨?_, ?_, ⟨.slice (some ⟨g5, 0, none⟩) (s.1.length + 1) cap5, ?_, ?_⟩, ?_, ?_, ?_, ?_⟩, ?_⟩
  · exact (Below.heap_setCell _ _ _ _ (by show z ≠ z + 1 + 1; omega)).trans ((low _ (by omega)).trans h.rows)
  · exact (Below.heap_setCell _ _ _ _ (by show z + 1 ≠ z + 1 + 1; omega)).trans ((low _ (by omega)).trans h.rch)
  · exact boxed_setU hu9 _
  · have g := iown_keep hown (w' := w9.setCell ⟨z + 1 + 1, 0, none⟩ (.slice (some ⟨g5, 0, none⟩) (s.1.length + 1) cap5)) fun k hk => Below.heap_setCell _ _ _ _ (by have := (hown.lt k hk).1; show k ≠ z + 1 + 1; omega)
    have e : iv (zs s.1) ++ [.int .i64 (y : Int)] = iv (zs (s.1 ++ [y])) := by rw [zs_append, iv_append]; rfl
    rw [e] at g
    simpa using g
  · exact (Below.heap_setCell _ _ _ _ (by show z + 1 + 1 + 1 ≠ z + 1 + 1; omega)).trans ((low _ (by omega)).trans h.here)
  · exact (Below.heap_setCell _ _ _ _ (by show z + 1 + 1 + 1 + 1 ≠ z + 1 + 1; omega)).trans ((low _ (by omega)).trans h.box)
  · exact hb9.setCell (p := ⟨z + 1 + 1, 0, none⟩) (by show w.heap.size ≤ z + 1 + 1; omega) _
  · have : (w9.setCell ⟨z + 1 + 1, 0, none⟩ (.slice (some ⟨g5, 0, none⟩) (s.1.length + 1) cap5)).heap.size = w9.heap.size := by simp [World.setCell]
    rw [this]
    exact Nat.le_trans h.sz hsz
  · refine ⟨by simp [World.setCell]; exact hsz, fun k q _ hk hq => ?_⟩
    have hne : k ≠ z + 1 + 1 := fun e => by rw [e, hu] at hk; cases hk; exact cellsNot hq
    have hno : u.ownBlock ≠ some k := fun e => by
      rcases hr.2 with ⟨e2, _⟩ | ⟨g, cap, cur, e2, _, hh, _⟩
      · rw [e2] at e; cases e
      · rw [e2] at e
        have e3 : g = k := Option.some.inj e
        rw [e3, hk] at hh
        cases hh
        exact cellsNot hq
    exact (Below.heap_setCell _ _ _ _ (by exact hne)).trans ((far k (some_lt hk) hno).trans hk)
theorem bkAll_low {F : List Nat} {Ls : List Lk} {fr rch N : Nat} {p : List (Nat × Nat × Int × Bool)} (hN : 0 < N) (hp : ∀ x ∈ p, x.2.1 < N) : (bkAll F Ls fr rch p).2.1 < N := by
  have key : ∀ (p : List (Nat × Nat × Int × Bool)) (s : List Nat × (Nat × Int × Bool)), (∀ x ∈ p, x.2.1 < N) → s.2.1 < N → (p.foldl (fun s x => bkStep F Ls fr rch s x.2) s).2.1 < N := by
    intro p
    induction p with
    | nil => intro s _ h; exact h
    | cons x r ih =>
      intro s hx hs
      rw [List.foldl_cons]
      refine ih _ (fun y hy => hx y (List.mem_cons_of_mem _ hy)) ?_
      have h0 := hx x (List.mem_cons_self ..)
      unfold bkStep
      split
      · exact h0
      · split
        · exact h0
        · exact hs
  exact key p _ hp hN
theorem hit_lt {L : List Lk} {x : Nat} (h : hitL L x = true) : below32 (hds L) x < L.length := by
  unfold hitL at h
  have := of_decide_eq_true h
  have := (List.getElem?_eq_some_iff.1 this).1
  rwa [hds_len] at this

set_option maxRecDepth 100000 in
set_option maxHeartbeats 4000000 in
theorem backward_calls (so : Option Addr) (n sc : Nat) (w : World) : Calls Tryz.prog 96 #[.slice so n sc] w fun e w' => e = .returned (.func (.func 114) #[] #[.pointer (some ⟨w.heap.size, 0, none⟩)]) ∧ w' = w.alloc (.cells #[.slice so n sc] 131) := by
  go_enter Tryz.func96, Tryz.ntmps96
  go_wp2
  go_ret
  exact ⟨rfl, rfl⟩

end Go.Proofs.YtodilocmfdeehaaGreatDoor.Hi

namespace Go.Proofs.YtodilocmfdeehaaGreatDoor.Hi
open Go.RowKit Go.Extern Go.Sort Go.Shelf

section
variable {P : Program} {ops : Array Oper} {Q : Exit → Act → World → Prop} {md : Region.Mode} {l n : Nat}
theorem upon_round {o : Oper} {a : Act} {K : Act → World → Prop} {r : Result Next} (h : o.upon P a K Q r) : o.uponIn (Fence.wide.inRound l) n P a K Q r := by
  cases r with
  | ok x w =>
    cases x <;> simp only [Oper.upon, Oper.uponIn] at h ⊢ <;>
      first
        | exact h
        | exact ⟨fun g => (by cases g), CallsIn.inRound l (callsIn_wide.2 h)⟩
        | exact ⟨fun g => (by cases g), fun c cs _ => let ⟨v, w', r, s⟩ := h c cs; ⟨v, w', r, stepsIn_wide.2 s⟩⟩
        | exact h.elim
  | halt x w => cases x <;> simp only [Oper.upon, Oper.uponIn] at h ⊢ <;> exact h
theorem op_round (hnd : ∀ (i : Nat) (o : Oper), ops[i]? = some o → ∀ c, o.op ≠ .defer c) (hQ : ¬ LetsOut Q) {i : Nat} {K : Act → World → Prop} {a : Act} {w : World} (h : wpOp P ops Q i K a w) : wpOpIn (Fence.wide.inRound l) n P ops Q i K a w := by
  unfold wpOp at h
  unfold wpOpIn
  cases ho : ops[i]? with
  | none => rw [ho] at h; exact h
  | some o =>
    rw [ho] at h
    simp only at h ⊢
    split
    · rename_i hw
      rw [if_pos hw] at h
      rcases h with h | h
      · refine ⟨fun _ _ => trivial, ?_⟩
        rw [Oper.semAt_plain _ _ _ (hnd i o ho)]
        exact upon_round h
      · exact absurd h.2 hQ
    · rename_i hw
      rw [if_neg hw] at h
      exact ⟨fun _ _ => trivial, h⟩
theorem any_round (hnd : ∀ (i : Nat) (o : Oper), ops[i]? = some o → ∀ c, o.op ≠ .defer c) (hQ : ¬ LetsOut Q) : ∀ (fuel : Nat) (listed : Array Bool) (a : Act) (w : World), wpAny P md ops Q fuel listed a w → wpAnyIn (Fence.wide.inRound l) n P md ops Q fuel listed a w
  | 0, _, _, _, h => h
  | fuel + 1, _, _, _, h => ⟨h.1, fun i hi => wpOpIn_mono (fun a w g => any_round hnd hQ fuel _ a w g) (op_round hnd hQ (h.2 i hi))⟩
/-- THE LAW: the region is walked as outside of a round, S held. -/
theorem region_round {S : World → Prop} {id : Nat} {a : Act} {w : World} (hm : P.follows .mixedOrders = true) (hnd : (ops.all fun o => !(o.op matches .defer _)) = true) (hQ : ¬ LetsOut Q) (hS : S w.drew) (h : S w.drew → wpAnyH P .any ops Q S ops.size (Array.replicate ops.size false) a w.drew) :
    (Code.region id ops true).wpIn (Fence.wide.inRound l) n P Q a w := by
  refine wpIn_region_any hm (any_round ?_ hQ _ _ _ _ (wpAny_of_held _ _ _ _ (h hS)))
  intro i o ho c e
  have h1 := (Array.all_eq_true_iff_forall_mem.1 hnd) o (Array.mem_of_getElem? ho)
  rw [e] at h1
  simp at h1
end
end Go.Proofs.YtodilocmfdeehaaGreatDoor.Hi

namespace Go.Proofs.YtodilocmfdeehaaGreatDoor.Hi
open Go.RowKit Go.Extern Cb

attribute [local go_sem] Oper.semAt_some

theorem BKI.start (w : World) (fo lo so : Option Addr) (fc lc sc : Nat) (F : List Nat) (Ls : List Lk) (X : List (Nat × Int × Bool)) (fr rch z : Nat) (hz : w.heap.size = z) :
    BKI w z fo lo so fc lc sc F Ls X fr rch ([], (0, 0, false)) (((((w.alloc (.cells #[.slice fo F.length fc, .slice lo Ls.length lc, .int .i64 (fr : Int)] 136)).alloc (.cells #[.int .i64 (rch : Int)] 3)).alloc (.cells #[.slice none 0 0] 28)).alloc (.cells #[.int .i64 0, .int .u64 0, .bool false] 178)).alloc (.cells #[.slice so X.length sc] 131)) ∧ (((((w.alloc (.cells #[.slice fo F.length fc, .slice lo Ls.length lc, .int .i64 (fr : Int)] 136)).alloc (.cells #[.int .i64 (rch : Int)] 3)).alloc (.cells #[.slice none 0 0] 28)).alloc (.cells #[.int .i64 0, .int .u64 0, .bool false] 178)).alloc (.cells #[.slice so X.length sc] 131)).heap.size = z + 1 + 1 + 1 + 1 + 1 := by
  subst hz
  have e0 := heap_newW w (.cells #[.slice fo F.length fc, .slice lo Ls.length lc, .int .i64 (fr : Int)] 136)
  have b0 : Below w.heap.size w (w.alloc (.cells #[.slice fo F.length fc, .slice lo Ls.length lc, .int .i64 (fr : Int)] 136)) := (Below.refl _ _).alloc (Nat.le_refl _) _
  have z0 : (w.alloc (.cells #[.slice fo F.length fc, .slice lo Ls.length lc, .int .i64 (fr : Int)] 136)).heap.size = w.heap.size + 1 := World.size_alloc _ _
  generalize w.alloc (.cells #[.slice fo F.length fc, .slice lo Ls.length lc, .int .i64 (fr : Int)] 136) = A0 at *
  have e1 := heap_newW A0 (.cells #[.int .i64 (rch : Int)] 3)
  have b1 : Below A0.heap.size A0 (A0.alloc (.cells #[.int .i64 (rch : Int)] 3)) := (Below.refl _ _).alloc (Nat.le_refl _) _
  have z1 : (A0.alloc (.cells #[.int .i64 (rch : Int)] 3)).heap.size = A0.heap.size + 1 := World.size_alloc _ _
  generalize A0.alloc (.cells #[.int .i64 (rch : Int)] 3) = A1 at *
  have e2 := heap_newW A1 (.cells #[.slice none 0 0] 28)
  have b2 : Below A1.heap.size A1 (A1.alloc (.cells #[.slice none 0 0] 28)) := (Below.refl _ _).alloc (Nat.le_refl _) _
  have z2 : (A1.alloc (.cells #[.slice none 0 0] 28)).heap.size = A1.heap.size + 1 := World.size_alloc _ _
  generalize A1.alloc (.cells #[.slice none 0 0] 28) = A2 at *
  have e3 := heap_newW A2 (.cells #[.int .i64 0, .int .u64 0, .bool false] 178)
  have b3 : Below A2.heap.size A2 (A2.alloc (.cells #[.int .i64 0, .int .u64 0, .bool false] 178)) := (Below.refl _ _).alloc (Nat.le_refl _) _
  have z3 : (A2.alloc (.cells #[.int .i64 0, .int .u64 0, .bool false] 178)).heap.size = A2.heap.size + 1 := World.size_alloc _ _
  generalize A2.alloc (.cells #[.int .i64 0, .int .u64 0, .bool false] 178) = A3 at *
  have e4 := heap_newW A3 (.cells #[.slice so X.length sc] 131)
  have b4 : Below A3.heap.size A3 (A3.alloc (.cells #[.slice so X.length sc] 131)) := (Below.refl _ _).alloc (Nat.le_refl _) _
  have z4 : (A3.alloc (.cells #[.slice so X.length sc] 131)).heap.size = A3.heap.size + 1 := World.size_alloc _ _
  generalize A3.alloc (.cells #[.slice so X.length sc] 131) = A4 at *
  rw [z3, z2, z1, z0] at z4 e4
  rw [z2, z1, z0] at z3 e3
  rw [z1, z0] at z2 e2
  rw [z0] at z1 e1
  have k3 := b4
  have k2 := btrU b3 k3
  have k1 := btrU b2 k2
  have k0 := btrU b1 k1
  exact ⟨⟨(k0.block _ (by omega)).trans e0, (k1.block _ (by omega)).trans e1, ⟨.slice none 0 0, (k2.block _ (by omega)).trans e2, World.ownsRow_nil _ _ _ _⟩, (k3.block _ (by omega)).trans e3, e4, btrU b0 k0, by omega⟩, z4⟩
theorem keepsT_belowU {Tn : Obj → Prop} {B : Nat} {A C : World} (h : Below A.heap.size A C) : KeepsT Tn B A C := ⟨h.size, fun k _ _ hk _ => (h.block k (some_lt hk)).trans hk⟩
theorem cell_oneU (w : World) (v : Value) : ∀ j u, [v][j]? = some u → (w.alloc (.cells #[v] 3)).cell? ((⟨w.heap.size, 0, none⟩ : Addr).add j) = some u := new_cellsU w [v] 3
theorem far9 {z B n g5 cap5 : Nat} {w9 W : World} {o : Obj} {u : Value} {xs : List Value} (hu : Boxed W (z + 1 + 1) 28 u) (hr : W.ownsRow B 3 1 u n xs) (hg : (W.alloc o).grownBy w9 u.ownBlock) {k : Nat} {c : Array Value} (hk : W.heap[k]? = some (.cells c 178)) : (w9.setCell ⟨z + 1 + 1, 0, none⟩ (.slice (some ⟨g5, 0, none⟩) (n + 1) cap5)).heap[k]? = some (.cells c 178) := by
  have hA : Below W.heap.size W (W.alloc o) := (Below.refl _ _).alloc (Nat.le_refl _) _
  have hne : k ≠ z + 1 + 1 := fun e => by rw [e, hu] at hk; cases hk
  have hno : u.ownBlock ≠ some k := fun e => by
    rcases hr.2 with ⟨e2, _⟩ | ⟨g, cap, cur, e2, _, hh, _⟩
    · rw [e2] at e; cases e
    · rw [e2] at e
      have e3 : g = k := Option.some.inj e
      rw [e3, hk] at hh
      cases hh
  have far : w9.heap[k]? = W.heap[k]? := (hg.block k (Nat.lt_of_lt_of_le (some_lt hk) hA.size) (fun e => hno e.symm)).trans (hA.block k (some_lt hk))
  exact (Below.heap_setCell _ _ _ _ (by exact hne)).trans (far.trans hk)
theorem sn_low {w w' : World} {so : Option Addr} {X : List (Nat × Int × Bool)} (h : HasSn w so X) (hb : Below w.heap.size w w') : HasSn w' so X := fun j x hj => by
  obtain ⟨b, off, e, hl, c0, c1, c2⟩ := h j x hj
  exact ⟨b, off, e, Nat.lt_of_lt_of_le hl hb.size, (hb.cell (p := ⟨b, _, none⟩) hl).trans c0, (hb.cell (p := ⟨b, _, none⟩) hl).trans c1, (hb.cell (p := ⟨b, _, none⟩) hl).trans c2⟩
theorem bkw_mem {X : List (Nat × Int × Bool)} {y : Nat × Nat × Int × Bool} (h : y ∈ bkw X) : y.2 ∈ X := by
  unfold bkw at h
  obtain ⟨k, hk, rfl⟩ := List.mem_map.1 h
  have hk2 := List.mem_range.1 hk
  have hlt : X.length - 1 - k < X.length := by omega
  simp only [List.getD_eq_getElem?_getD, List.getElem?_eq_getElem hlt, Option.getD_some]
  exact List.getElem_mem hlt

set_option maxRecDepth 100000 in
set_option maxHeartbeats 8000000 in
theorem uback_calls (fo lo so : Option Addr) (fc lc sc n : Nat) (F : List Nat) (Ls : List Lk) (X : List (Nat × Int × Bool)) (fr rch : Nat) (w : World) (hX : X.length ≤ 65536) (hn : n ≤ 65536) (hn0 : 0 < n) (hfr : fr ≤ 1048576) (hR : RowsOk w n fo lo fc lc F Ls) (hso : ∀ r, r < n → (hds (rowL F Ls r)).Pairwise (· ≤ ·)) (hsn : HasSn w so X) (hrk : ∀ x ∈ X, x.1 < n) :
    Calls Tryz.prog 76 #[.agg #[.slice fo F.length fc, .slice lo Ls.length lc, .int .i64 (fr : Int)], .slice so X.length sc, .int .i64 (rch : Int)] w fun e w' => ∃ mo mc, e = .returned (.slice mo (bkAll F Ls fr rch (bkw X)).1.length mc) ∧ GrI w w' (.slice mo (bkAll F Ls fr rch (bkw X)).1.length mc) (bkAll F Ls fr rch (bkw X)).1 := by
  obtain ⟨z, hz⟩ : ∃ z, w.heap.size = z := ⟨_, rfl⟩
  have HZ : Hid (w.heap.size = z) := hz
  have HRO : Hid (RowsOk w n fo lo fc lc F Ls) := hR
  have HSO : Hid (∀ r, r < n → (hds (rowL F Ls r)).Pairwise (· ≤ ·)) := hso
  have HSN : Hid (HasSn w so X) := hsn
  have HRK : Hid (∀ x ∈ X, x.1 < n) := hrk
  have HXL : Hid (X.length ≤ 65536) := hX
  have hst := BKI.start w fo lo so fc lc sc F Ls X fr rch z hz
  have HFL : Hid (F.length = n + 1 ∧ Ls.length ≤ 1048576) := ⟨hR.len, hR.few⟩
  clear hR hso hsn hrk
  refine (callsIn_wide (n := 5)).1 (callsIn_of_wp_marks Tryz.func76 rfl trivial (wpIn_wide.2 (wp_quiet ?_)) rfl)
  simp only [List.size_toArray, List.length_cons, List.length_nil, Tryz.ntmps76, Nat.reduceAdd, Nat.reduceSub, Array.replicate_succ, Array.replicate_zero, List.push_toArray, List.append_toArray, List.nil_append, List.cons_append]
  go_wp2_with fail
  refine (backward_calls so X.length sc _).mono ?_
  rintro e W2 ⟨rfl, hW2⟩
  rw [← hW2] at hst
  have hI0 : BKI w z fo lo so fc lc sc F Ls X fr rch (bkAll F Ls fr rch []) W2 := hst.1
  have hs1 := hst.2
  have e4 : ((((w.alloc (.cells #[.slice fo F.length fc, .slice lo Ls.length lc, .int .i64 (fr : Int)] 136)).alloc (.cells #[.int .i64 (rch : Int)] 3)).alloc (.cells #[.slice none 0 0] 28)).alloc (.cells #[.int .i64 0, .int .u64 0, .bool false] 178)).heap.size = z + 1 + 1 + 1 + 1 := by simp [hz]
  rw [e4]
  clear hst hW2 e4 hX hz
  go_wp2_with fail
  have HI : AbT TnC W2.heap.size (fun (p : List (Nat × Nat × Int × Bool)) Wc => BKI w z fo lo so fc lc sc F Ls X fr rch (bkAll F Ls fr rch p) Wc) := by
    rw [hs1]; exact fun s A C hs ht => hs.turn (by rw [HZ.out]; omega) ht
  refine (wpIn_wide (n := 5)).1 ?_
  refine wp_over (xs := bkw X) rfl (fun h => (by cases h)) (gf := 114) (lb := #[.pointer (some ⟨z + 1 + 1 + 1 + 1, 0, none⟩)]) rfl trivial (enters_of Tryz.func114 (by kernel_rfl) rfl)
    (backward1_seq _ (z + 1 + 1 + 1 + 1) so sc X HXL.out 0) (Nat.zero_le _) (fun _ => rfl) (fun _ => rfl) (fun _ => rfl) _ (fun _ _ => False) HI (fun _ _ _ h _ => h) (fun pre Wc hi => ⟨hi.box, sn_low HSN.out hi.bl⟩) hI0
    (fun x a' Wc => ∃ Bx, (Wc.heap[Bx]? = some (.cells #[.int .i64 (x.2.1 : Int), .int .u64 x.2.2.1, .bool x.2.2.2] 178) ∧ z + 1 + 1 + 1 + 1 + 1 ≤ Bx) ∧ a' = { tmps := #[.agg #[.slice fo F.length fc, .slice lo Ls.length lc, .int .i64 (fr : Int)], .slice so X.length sc, .int .i64 (rch : Int), .pointer (some ⟨z, 0, none⟩), undef, .pointer (some ⟨z + 1, 0, none⟩), .slice none 0 0, .pointer (some ⟨z + 1 + 1, 0, none⟩), .pointer (some ⟨z + 1 + 1 + 1, 0, none⟩), undef, .pointer (some ⟨Bx, 0, none⟩), undef, undef, .agg #[.int .i64 0, .int .u64 0, .bool false], .slice so X.length sc, .func (.func 114) #[] #[.pointer (some ⟨z + 1 + 1 + 1 + 1, 0, none⟩)], .int .i64 (x.1 : Int), .agg #[.int .i64 (x.2.1 : Int), .int .u64 x.2.2.1, .bool x.2.2.2], undef, undef, undef, undef, undef, undef, undef, undef, undef, undef, undef, undef, undef, undef, undef, undef, undef, undef, undef, undef, undef, undef, undef, undef, undef, undef, undef, undef, undef, undef, undef, undef, undef, undef, undef, undef, undef, undef], defers := [] })
    (fun x a' _ A C hs ht => by obtain ⟨Bx, ⟨h1, h3⟩, h2⟩ := hs; exact ⟨Bx, ⟨ht.same _ _ h1 cellsNot, h3⟩, h2⟩) ?assign ?body ?done (fun _ _ _ _ _ h _ => h.elim)
  case assign =>
    rintro l2 pre x Wc K hi hp hK
    have HHI : Hid (BKI w z fo lo so fc lc sc F Ls X fr rch (bkAll F Ls fr rch pre) Wc) := hi
    clear hi
    obtain ⟨m, rk, ds, st⟩ := x
    dsimp only [encB]
    gi_wp2
    exact hK _ _ ((KeepsT.refl _ _ _).alloc _) (HHI.out.below ((Below.refl _ _).alloc (Nat.le_refl _) _)) ⟨Wc.heap.size, ⟨heap_newW _ _, HHI.out.sz⟩, rfl⟩
  case body =>
    rintro l2 pre x a' Wc hl2 hi ⟨Bx, ⟨bX, hBx⟩, rfl⟩ hp
    have hmem : x ∈ bkw X := hp.subset (by simp)
    have hpm : ∀ y ∈ pre, y.2.1 < n := fun y hy => HRK.out _ (bkw_mem (hp.subset (by simp [hy])))
    have hxr := HRK.out _ (bkw_mem hmem)
    have hlow := bkAll_low (F := F) (Ls := Ls) (fr := fr) (rch := rch) hn0 hpm
    have hwl := bkAll_len F Ls fr rch pre
    have hpl : pre.length ≤ 65536 := by
      have h1 := hp.length_le
      rw [List.length_append, bkw_len] at h1
      have h2 := HXL.out
      omega
    have HSNC : Hid (bkAll F Ls fr rch (pre ++ [x]) = bkStep F Ls fr rch (bkAll F Ls fr rch pre) x.2) := bkAll_snoc F Ls fr rch pre x
    generalize bkAll F Ls fr rch pre = s at *
    obtain ⟨wy, hr, hd, hs⟩ := s
    obtain ⟨m, rk, ds, st⟩ := x
    dsimp only at hxr hlow hwl bX
    dsimp only
    have hwy : wy.length ≤ 65536 := by omega
    have HHI : Hid (BKI w z fo lo so fc lc sc F Ls X fr rch (wy, hr, hd, hs) Wc) := hi
    have HCL : Hid (∀ wx, Below Wc.heap.size Wc wx → (wx.cell? ⟨z, 0, none⟩ = some (.slice fo F.length fc) ∧ wx.cell? ⟨z, 1, none⟩ = some (.slice lo Ls.length lc) ∧ wx.cell? ⟨z, 2, none⟩ = some (.int .i64 (fr : Int))) ∧ wx.cell? ⟨z + 1, 0, none⟩ = some (.int .i64 (rch : Int)) ∧ ((wx.cell? ⟨z + 1 + 1 + 1, 0, none⟩ = some (.int .i64 (hr : Int)) ∧ wx.cell? ⟨z + 1 + 1 + 1, 1, none⟩ = some (.int .u64 hd) ∧ wx.cell? ⟨z + 1 + 1 + 1, 2, none⟩ = some (.bool hs)) ∧ wx.frozen? ⟨z + 1 + 1 + 1, 0, none⟩ = false ∧ wx.frozen? ⟨z + 1 + 1 + 1, 1, none⟩ = false ∧ wx.frozen? ⟨z + 1 + 1 + 1, 2, none⟩ = false) ∧ (wx.cell? ⟨Bx, 0, none⟩ = some (.int .i64 (rk : Int)) ∧ wx.cell? ⟨Bx, 1, none⟩ = some (.int .u64 ds) ∧ wx.cell? ⟨Bx, 2, none⟩ = some (.bool st)) ∧ BKI w z fo lo so fc lc sc F Ls X fr rch (wy, hr, hd, hs) wx ∧ wx.heap[Bx]? = some (.cells #[.int .i64 (rk : Int), .int .u64 ds, .bool st] 178)) := fun wx hx => by
      have g := HHI.out.below hx
      have g1 := g.rows
      have g2 := g.here
      have g3 := (hx.block _ (some_lt bX)).trans bX
      exact ⟨⟨by simp [World.cell?, g1], by simp [World.cell?, g1], by simp [World.cell?, g1]⟩, g.rch.cell, ⟨⟨by simp [World.cell?, g2], by simp [World.cell?, g2], by simp [World.cell?, g2]⟩, by simp [World.frozen?, g2], by simp [World.frozen?, g2], by simp [World.frozen?, g2]⟩, ⟨by simp [World.cell?, g3], by simp [World.cell?, g3], by simp [World.cell?, g3]⟩, g, g3⟩
    obtain ⟨⟨c0, c1, c2⟩, c3, ⟨⟨c4, c5, c6⟩, f4, f5, f6⟩, ⟨c7, c8, c9⟩, _, _⟩ := HCL.out Wc (Below.refl _ _)
    clear hi bX hmem hpm hp hwl hpl
    by_cases hge : rch ≤ rk
    · have d1 : decide ((rch : Int) ≤ (rk : Int)) = true := by simp; omega
      have HST : Hid (bkAll F Ls fr rch (pre ++ [(m, rk, ds, st)]) = (wy, (rk, ds, st))) := by show _ = _; rw [HSNC.out]; unfold bkStep; rw [if_pos hge]
      gi_wp2
      have HG := HHI.out.go (B := W2.heap.size) HZ.out (rk, ds, st)
      rw [hs1] at HG
      exact ⟨HG.2, by show BKI _ _ _ _ _ _ _ _ _ _ _ _ _ (bkAll F Ls fr rch (pre ++ [(m, rk, ds, st)])) _; rw [HST.out]; exact HG.1⟩
    · have d1 : decide ((rch : Int) ≤ (rk : Int)) = false := by simp; omega
      obtain ⟨pc, hpc⟩ : ∃ pc, nth F rk + below32 (hds (rowL F Ls rk)) hr = pc := ⟨_, rfl⟩
      obtain ⟨ht, hht⟩ : ∃ ht, hitL (rowL F Ls rk) hr = ht := ⟨_, rfl⟩
      have HFI : Hid (∀ m wx, Below Wc.heap.size Wc wx → CallsIn (Fence.wide.inRound l2) m Tryz.prog 97 #[.agg #[.slice fo F.length fc, .slice lo Ls.length lc, .int .i64 (fr : Int)], .int .i64 (rk : Int), .int .i64 (hr : Int)] wx fun e w' => e = .returned (.tuple #[.int .i64 (pc : Int), .bool ht]) ∧ Below Wc.heap.size Wc w') := fun m wx hx => by
        have hb := (HCL.out wx hx).2.2.2.2.1.bl
        have q := ufind_calls fo lo fc lc F Ls fr rk hr wx HRO.out.ok (by have := HRO.out.len; omega) (by have := HRO.out.len; omega) HRO.out.few (by omega) (HRO.out.fs.keep hb) (HRO.out.ls.keep hb) (HSO.out rk hxr)
        rw [hpc, hht] at q
        exact CallsIn.inRound l2 (callsIn_wide.2 (q.mono fun e w' ⟨q1, q2⟩ => ⟨q1, hx.trans (q2.mono hx.size)⟩))
      cases ht with
      | false =>
        have HST : Hid (bkAll F Ls fr rch (pre ++ [(m, rk, ds, st)]) = (wy, hr, hd, hs)) := by show _ = _; rw [HSNC.out]; unfold bkStep; rw [if_neg hge, if_neg (by rw [hht]; simp)]
        clear hpc hht
        gi_wp2_with (refine ⟨trivial, ?_⟩; (with_reducible refine (HFI.out _ _ (Below.refl _ _)).mono ?_); rintro e wp ⟨rfl, hbp⟩; have HBP : Hid (Below Wc.heap.size Wc wp) := hbp; clear hbp c0 c1 c2 c3 c4 c5 c6 c7 c8 c9 f4 f5 f6; obtain ⟨⟨c0, c1, c2⟩, c3, ⟨⟨c4, c5, c6⟩, f4, f5, f6⟩, ⟨c7, c8, c9⟩, _, _⟩ := HCL.out wp HBP.out)
        refine region_round (S := fun w' : World => w'.cell? ⟨Bx, 1, none⟩ = some (.int .u64 ds)) (by kernel_rfl) (by kernel_rfl) (fun ⟨_, _, g⟩ => g) (c8) (fun hHeld => ?_)
        refine wpAnyH_take (i := 0) (oi := ⟨some 32, .move (.tmp 12), 4, "way.go:50", #[], none⟩) (v := ?vpa0) rfl (by kernel_rfl) (by kernel_rfl) (by kernel_rfl) (fun _ _ _ h => h) (Or.inl ⟨by rfl, ?hpa0⟩) (by assumption) ?rpa0
        case hpa0 => ((intro wz hSw; (try dsimp only at hSw); go_simp); try (with_reducible rfl))
        simp only [Act.put, List.setIfInBounds_toArray, List.set_cons_zero, List.set_cons_succ]
        refine wpAnyH_take (i := 1) (oi := ⟨some 33, .move (.tmp 32), 4, "way.go:50", #[⟨0, .data⟩], none⟩) (v := ?vpa1) rfl (by kernel_rfl) (by kernel_rfl) (by kernel_rfl) (fun _ _ _ h => h) (Or.inl ⟨by rfl, ?hpa1⟩) (by assumption) ?rpa1
        case hpa1 => ((intro wz hSw; (try dsimp only at hSw); go_simp); try (with_reducible rfl))
        simp only [Act.put, List.setIfInBounds_toArray, List.set_cons_zero, List.set_cons_succ]
        refine wpAnyH_take (i := 2) (oi := ⟨some 34, .fieldAddr 178 (.tmp 10) 1, 0, "way.go:50", #[⟨1, .guard⟩], some (1, Bool.true)⟩) (v := undef) rfl (by kernel_rfl) (by kernel_rfl) (by kernel_rfl) (fun _ _ _ h => h) (Or.inr ⟨by rfl, rfl⟩) (by assumption) ?_
        simp only [Act.put, List.setIfInBounds_toArray, List.set_cons_zero, List.set_cons_succ]
        refine wpAnyH_take (i := 3) (oi := ⟨some 35, .load 45 (.tmp 34), 45, "way.go:50", #[⟨2, .data⟩, ⟨1, .guard⟩], some (1, Bool.true)⟩) (v := undef) rfl (by kernel_rfl) (by kernel_rfl) (by kernel_rfl) (fun _ _ _ h => h) (Or.inr ⟨by rfl, rfl⟩) (by assumption) ?_
        simp only [Act.put, List.setIfInBounds_toArray, List.set_cons_zero, List.set_cons_succ]
        refine wpAnyH_take (i := 4) (oi := ⟨some 36, .fieldAddr 136 (.tmp 3) 1, 0, "way.go:50", #[⟨1, .guard⟩], some (1, Bool.true)⟩) (v := undef) rfl (by kernel_rfl) (by kernel_rfl) (by kernel_rfl) (fun _ _ _ h => h) (Or.inr ⟨by rfl, rfl⟩) (by assumption) ?_
        simp only [Act.put, List.setIfInBounds_toArray, List.set_cons_zero, List.set_cons_succ]
        refine wpAnyH_take (i := 5) (oi := ⟨some 37, .load 23 (.tmp 36), 23, "way.go:50", #[⟨4, .data⟩, ⟨1, .guard⟩], some (1, Bool.true)⟩) (v := undef) rfl (by kernel_rfl) (by kernel_rfl) (by kernel_rfl) (fun _ _ _ h => h) (Or.inr ⟨by rfl, rfl⟩) (by assumption) ?_
        simp only [Act.put, List.setIfInBounds_toArray, List.set_cons_zero, List.set_cons_succ]
        refine wpAnyH_take (i := 6) (oi := ⟨some 38, .move (.tmp 11), 3, "way.go:50", #[⟨1, .guard⟩], some (1, Bool.true)⟩) (v := undef) rfl (by kernel_rfl) (by kernel_rfl) (by kernel_rfl) (fun _ _ _ h => h) (Or.inr ⟨by rfl, rfl⟩) (by assumption) ?_
        simp only [Act.put, List.setIfInBounds_toArray, List.set_cons_zero, List.set_cons_succ]
        refine wpAnyH_take (i := 7) (oi := ⟨some 39, .indexAddr 23 (.tmp 37) (.tmp 38), 0, "way.go:50", #[⟨5, .data⟩, ⟨6, .data⟩, ⟨1, .guard⟩], some (1, Bool.true)⟩) (v := undef) rfl (by kernel_rfl) (by kernel_rfl) (by kernel_rfl) (fun _ _ _ h => h) (Or.inr ⟨by rfl, rfl⟩) (by assumption) ?_
        simp only [Act.put, List.setIfInBounds_toArray, List.set_cons_zero, List.set_cons_succ]
        refine wpAnyH_take (i := 8) (oi := ⟨some 40, .fieldAddr 65 (.tmp 39) 1, 0, "way.go:50", #[⟨7, .data⟩, ⟨1, .guard⟩], some (1, Bool.true)⟩) (v := undef) rfl (by kernel_rfl) (by kernel_rfl) (by kernel_rfl) (fun _ _ _ h => h) (Or.inr ⟨by rfl, rfl⟩) (by assumption) ?_
        simp only [Act.put, List.setIfInBounds_toArray, List.set_cons_zero, List.set_cons_succ]
        refine wpAnyH_take (i := 9) (oi := ⟨some 41, .load 45 (.tmp 40), 45, "way.go:50", #[⟨8, .data⟩, ⟨1, .guard⟩], some (1, Bool.true)⟩) (v := undef) rfl (by kernel_rfl) (by kernel_rfl) (by kernel_rfl) (fun _ _ _ h => h) (Or.inr ⟨by rfl, rfl⟩) (by assumption) ?_
        simp only [Act.put, List.setIfInBounds_toArray, List.set_cons_zero, List.set_cons_succ]
        refine wpAnyH_take (i := 10) (oi := ⟨some 42, .binOp .add 45 (.tmp 35) (.tmp 41) 45, 45, "way.go:50", #[⟨3, .data⟩, ⟨9, .data⟩, ⟨1, .guard⟩], some (1, Bool.true)⟩) (v := undef) rfl (by kernel_rfl) (by kernel_rfl) (by kernel_rfl) (fun _ _ _ h => h) (Or.inr ⟨by rfl, rfl⟩) (by assumption) ?_
        simp only [Act.put, List.setIfInBounds_toArray, List.set_cons_zero, List.set_cons_succ]
        refine wpAnyH_take (i := 11) (oi := ⟨some 43, .fieldAddr 178 (.tmp 8) 1, 0, "way.go:50", #[⟨1, .guard⟩], some (1, Bool.true)⟩) (v := undef) rfl (by kernel_rfl) (by kernel_rfl) (by kernel_rfl) (fun _ _ _ h => h) (Or.inr ⟨by rfl, rfl⟩) (by assumption) ?_
        simp only [Act.put, List.setIfInBounds_toArray, List.set_cons_zero, List.set_cons_succ]
        refine wpAnyH_take (i := 12) (oi := ⟨some 44, .load 45 (.tmp 43), 45, "way.go:50", #[⟨11, .data⟩, ⟨1, .guard⟩], some (1, Bool.true)⟩) (v := undef) rfl (by kernel_rfl) (by kernel_rfl) (by kernel_rfl) (fun _ _ _ h => h) (Or.inr ⟨by rfl, rfl⟩) (by assumption) ?_
        simp only [Act.put, List.setIfInBounds_toArray, List.set_cons_zero, List.set_cons_succ]
        refine wpAnyH_take (i := 13) (oi := ⟨some 45, .binOp .eql 45 (.tmp 42) (.tmp 44) 45, 4, "way.go:50", #[⟨10, .data⟩, ⟨12, .data⟩, ⟨1, .guard⟩], some (1, Bool.true)⟩) (v := undef) rfl (by kernel_rfl) (by kernel_rfl) (by kernel_rfl) (fun _ _ _ h => h) (Or.inr ⟨by rfl, rfl⟩) (by assumption) ?_
        simp only [Act.put, List.setIfInBounds_toArray, List.set_cons_zero, List.set_cons_succ]
        refine wpAnyH_take (i := 14) (oi := ⟨some 46, .pick (.tmp 33) (.tmp 45) (.const (.bool Bool.false)), 4, "way.go:50", #[⟨1, .data⟩, ⟨13, .data⟩], none⟩) (v := ?vpa14) rfl (by kernel_rfl) (by kernel_rfl) (by kernel_rfl) (fun _ _ _ h => h) (Or.inl ⟨by rfl, ?hpa14⟩) (by assumption) ?rpa14
        case hpa14 => ((intro wz hSw; (try dsimp only at hSw); go_simp); try (with_reducible rfl))
        simp only [Act.put, List.setIfInBounds_toArray, List.set_cons_zero, List.set_cons_succ]
        refine wpAnyH_done (by kernel_rfl) ?_ _
        gi_wp2
        have hdq : Below Wc.heap.size Wc wp.drew := HBP.out.drew
        exact ⟨keepsT_belowU hdq, by show BKI _ _ _ _ _ _ _ _ _ _ _ _ _ (bkAll F Ls fr rch (pre ++ [(m, rk, ds, st)])) _; rw [HST.out]; exact HHI.out.below hdq⟩
      | true =>
        have hpl2 : pc < Ls.length := by
          have h1 := hit_lt hht
          have h2 := HRO.out.ok.atmost (a := rk + 1) (by have := HRO.out.len; omega)
          have h3 : (rowL F Ls rk).length ≤ nth F (rk + 1) - nth F rk := by unfold rowL; rw [List.length_take]; exact Nat.min_le_left _ _
          omega
        obtain ⟨l, hl⟩ : ∃ l, Ls[pc]? = some l := ⟨Ls[pc], List.getElem?_eq_getElem hpl2⟩
        obtain ⟨hok, lb, loff, hlo, hlb, _, _, _, _⟩ := HRO.out.ls.at hl
        have HLW : Hid (∀ wx, Below Wc.heap.size Wc wx → wx.cell? ⟨lb, loff + pc * 4 + 1, none⟩ = some (.int .u64 (l.wt : Int)) ∧ lb < wx.heap.size) := fun wx hx => by
          obtain ⟨_, b2, o2, e2, hb2, _, g1, _, _⟩ := (HRO.out.ls.keep (HCL.out wx hx).2.2.2.2.1.bl).at hl
          rw [hlo] at e2
          cases e2
          exact ⟨g1, hb2⟩
        have hgd : (Ls.getD pc default).wt = l.wt := by rw [List.getD_eq_getElem?_getD, hl]; rfl
        obtain ⟨sm, hsm⟩ : ∃ sm, IntKind.u64.wrap (ds + (l.wt : Int)) = sm := ⟨_, rfl⟩
        have i1 : (0 : Int) ≤ (pc : Int) := by omega
        have i2 : (pc : Int) < (Ls.length : Int) := by omega
        have hlsl := HFL.out.2
        subst hlo
        by_cases hse : sm = hd
        · have e1 : (sm == hd) = true := by simp [hse]
          have HST : Hid (bkAll F Ls fr rch (pre ++ [(m, rk, ds, st)]) = (wy ++ [fr + pc], (rk, ds, st))) := by show _ = _; rw [HSNC.out]; unfold bkStep; rw [if_neg hge, hpc, if_pos ⟨hht, by rw [hgd, hsm]; exact hse⟩]
          have v9 : IntKind.i64.wrap ((fr : Int) + (pc : Int)) = (fr : Int) + (pc : Int) := by rw [IntKind.wrap_i64] <;> omega
          have hsm' := hsm
          clear hpc hht hl hgd hok hlb
          gi_wp2_with (refine ⟨trivial, ?_⟩; (with_reducible refine (HFI.out _ _ (Below.refl _ _)).mono ?_); rintro e wp ⟨rfl, hbp⟩; have HBP : Hid (Below Wc.heap.size Wc wp) := hbp; clear hbp c0 c1 c2 c3 c4 c5 c6 c7 c8 c9 f4 f5 f6; obtain ⟨⟨c0, c1, c2⟩, c3, ⟨⟨c4, c5, c6⟩, f4, f5, f6⟩, ⟨c7, c8, c9⟩, _, _⟩ := HCL.out wp HBP.out; obtain ⟨cl, ll⟩ := HLW.out wp HBP.out)
          refine region_round (S := fun w' : World => w'.cell? ⟨Bx, 1, none⟩ = some (.int .u64 ds) ∧ w'.cell? ⟨z, 1, none⟩ = some (.slice (some ⟨lb, loff, none⟩) Ls.length lc) ∧ w'.cell? ⟨lb, loff + pc * 4 + 1, none⟩ = some (.int .u64 (l.wt : Int)) ∧ w'.cell? ⟨z + 1 + 1 + 1, 1, none⟩ = some (.int .u64 hd)) (by kernel_rfl) (by kernel_rfl) (fun ⟨_, _, g⟩ => g) (⟨c8, c1, cl, c5⟩) (fun hHeld => ?_)
          refine wpAnyH_take (i := 0) (oi := ⟨some 32, .move (.tmp 12), 4, "way.go:50", #[], none⟩) (v := ?vpb0) rfl (by kernel_rfl) (by kernel_rfl) (by kernel_rfl) (fun _ _ _ h => h) (Or.inl ⟨by rfl, ?hpb0⟩) (by assumption) ?rpb0
          case hpb0 => ((intro wz hSw; (try dsimp only at hSw); go_simp); try (with_reducible rfl))
          simp only [Act.put, List.setIfInBounds_toArray, List.set_cons_zero, List.set_cons_succ]
          refine wpAnyH_take (i := 1) (oi := ⟨some 33, .move (.tmp 32), 4, "way.go:50", #[⟨0, .data⟩], none⟩) (v := ?vpb1) rfl (by kernel_rfl) (by kernel_rfl) (by kernel_rfl) (fun _ _ _ h => h) (Or.inl ⟨by rfl, ?hpb1⟩) (by assumption) ?rpb1
          case hpb1 => ((intro wz hSw; (try dsimp only at hSw); go_simp); try (with_reducible rfl))
          simp only [Act.put, List.setIfInBounds_toArray, List.set_cons_zero, List.set_cons_succ]
          refine wpAnyH_take (i := 2) (oi := ⟨some 34, .fieldAddr 178 (.tmp 10) 1, 0, "way.go:50", #[⟨1, .guard⟩], some (1, Bool.true)⟩) (v := ?vpb2) rfl (by kernel_rfl) (by kernel_rfl) (by kernel_rfl) (fun _ _ _ h => h) (Or.inl ⟨by rfl, ?hpb2⟩) (by assumption) ?rpb2
          case hpb2 => ((intro wz hSw; (try dsimp only at hSw); go_simp); try (with_reducible rfl))
          simp only [Act.put, List.setIfInBounds_toArray, List.set_cons_zero, List.set_cons_succ]
          refine wpAnyH_take (i := 3) (oi := ⟨some 35, .load 45 (.tmp 34), 45, "way.go:50", #[⟨2, .data⟩, ⟨1, .guard⟩], some (1, Bool.true)⟩) (v := ?vpb3) rfl (by kernel_rfl) (by kernel_rfl) (by kernel_rfl) (fun _ _ _ h => h) (Or.inl ⟨by rfl, ?hpb3⟩) (by assumption) ?rpb3
          case hpb3 => ((intro wz hSw; (try dsimp only at hSw); go_simp); try (with_reducible rfl))
          simp only [Act.put, List.setIfInBounds_toArray, List.set_cons_zero, List.set_cons_succ]
          refine wpAnyH_take (i := 4) (oi := ⟨some 36, .fieldAddr 136 (.tmp 3) 1, 0, "way.go:50", #[⟨1, .guard⟩], some (1, Bool.true)⟩) (v := ?vpb4) rfl (by kernel_rfl) (by kernel_rfl) (by kernel_rfl) (fun _ _ _ h => h) (Or.inl ⟨by rfl, ?hpb4⟩) (by assumption) ?rpb4
          case hpb4 => ((intro wz hSw; (try dsimp only at hSw); go_simp); try (with_reducible rfl))
          simp only [Act.put, List.setIfInBounds_toArray, List.set_cons_zero, List.set_cons_succ]
          refine wpAnyH_take (i := 5) (oi := ⟨some 37, .load 23 (.tmp 36), 23, "way.go:50", #[⟨4, .data⟩, ⟨1, .guard⟩], some (1, Bool.true)⟩) (v := ?vpb5) rfl (by kernel_rfl) (by kernel_rfl) (by kernel_rfl) (fun _ _ _ h => h) (Or.inl ⟨by rfl, ?hpb5⟩) (by assumption) ?rpb5
          case hpb5 => ((intro wz hSw; (try dsimp only at hSw); go_simp); try (with_reducible rfl))
          simp only [Act.put, List.setIfInBounds_toArray, List.set_cons_zero, List.set_cons_succ]
          refine wpAnyH_take (i := 6) (oi := ⟨some 38, .move (.tmp 11), 3, "way.go:50", #[⟨1, .guard⟩], some (1, Bool.true)⟩) (v := ?vpb6) rfl (by kernel_rfl) (by kernel_rfl) (by kernel_rfl) (fun _ _ _ h => h) (Or.inl ⟨by rfl, ?hpb6⟩) (by assumption) ?rpb6
          case hpb6 => ((intro wz hSw; (try dsimp only at hSw); go_simp); try (with_reducible rfl))
          simp only [Act.put, List.setIfInBounds_toArray, List.set_cons_zero, List.set_cons_succ]
          refine wpAnyH_take (i := 7) (oi := ⟨some 39, .indexAddr 23 (.tmp 37) (.tmp 38), 0, "way.go:50", #[⟨5, .data⟩, ⟨6, .data⟩, ⟨1, .guard⟩], some (1, Bool.true)⟩) (v := ?vpb7) rfl (by kernel_rfl) (by kernel_rfl) (by kernel_rfl) (fun _ _ _ h => h) (Or.inl ⟨by rfl, ?hpb7⟩) (by assumption) ?rpb7
          case hpb7 => ((intro wz hSw; (try dsimp only at hSw); go_simp); try (with_reducible rfl))
          simp only [Act.put, List.setIfInBounds_toArray, List.set_cons_zero, List.set_cons_succ]
          refine wpAnyH_take (i := 8) (oi := ⟨some 40, .fieldAddr 65 (.tmp 39) 1, 0, "way.go:50", #[⟨7, .data⟩, ⟨1, .guard⟩], some (1, Bool.true)⟩) (v := ?vpb8) rfl (by kernel_rfl) (by kernel_rfl) (by kernel_rfl) (fun _ _ _ h => h) (Or.inl ⟨by rfl, ?hpb8⟩) (by assumption) ?rpb8
          case hpb8 => ((intro wz hSw; (try dsimp only at hSw); go_simp); try (with_reducible rfl))
          simp only [Act.put, List.setIfInBounds_toArray, List.set_cons_zero, List.set_cons_succ]
          refine wpAnyH_take (i := 9) (oi := ⟨some 41, .load 45 (.tmp 40), 45, "way.go:50", #[⟨8, .data⟩, ⟨1, .guard⟩], some (1, Bool.true)⟩) (v := ?vpb9) rfl (by kernel_rfl) (by kernel_rfl) (by kernel_rfl) (fun _ _ _ h => h) (Or.inl ⟨by rfl, ?hpb9⟩) (by assumption) ?rpb9
          case hpb9 => ((intro wz hSw; (try dsimp only at hSw); go_simp); try (with_reducible rfl))
          simp only [Act.put, List.setIfInBounds_toArray, List.set_cons_zero, List.set_cons_succ]
          refine wpAnyH_take (i := 10) (oi := ⟨some 42, .binOp .add 45 (.tmp 35) (.tmp 41) 45, 45, "way.go:50", #[⟨3, .data⟩, ⟨9, .data⟩, ⟨1, .guard⟩], some (1, Bool.true)⟩) (v := ?vpb10) rfl (by kernel_rfl) (by kernel_rfl) (by kernel_rfl) (fun _ _ _ h => h) (Or.inl ⟨by rfl, ?hpb10⟩) (by assumption) ?rpb10
          case hpb10 => ((intro wz hSw; (try dsimp only at hSw); go_simp); try (with_reducible rfl))
          simp only [Act.put, List.setIfInBounds_toArray, List.set_cons_zero, List.set_cons_succ]
          refine wpAnyH_take (i := 11) (oi := ⟨some 43, .fieldAddr 178 (.tmp 8) 1, 0, "way.go:50", #[⟨1, .guard⟩], some (1, Bool.true)⟩) (v := ?vpb11) rfl (by kernel_rfl) (by kernel_rfl) (by kernel_rfl) (fun _ _ _ h => h) (Or.inl ⟨by rfl, ?hpb11⟩) (by assumption) ?rpb11
          case hpb11 => ((intro wz hSw; (try dsimp only at hSw); go_simp); try (with_reducible rfl))
          simp only [Act.put, List.setIfInBounds_toArray, List.set_cons_zero, List.set_cons_succ]
          refine wpAnyH_take (i := 12) (oi := ⟨some 44, .load 45 (.tmp 43), 45, "way.go:50", #[⟨11, .data⟩, ⟨1, .guard⟩], some (1, Bool.true)⟩) (v := ?vpb12) rfl (by kernel_rfl) (by kernel_rfl) (by kernel_rfl) (fun _ _ _ h => h) (Or.inl ⟨by rfl, ?hpb12⟩) (by assumption) ?rpb12
          case hpb12 => ((intro wz hSw; (try dsimp only at hSw); go_simp); try (with_reducible rfl))
          simp only [Act.put, List.setIfInBounds_toArray, List.set_cons_zero, List.set_cons_succ]
          refine wpAnyH_take (i := 13) (oi := ⟨some 45, .binOp .eql 45 (.tmp 42) (.tmp 44) 45, 4, "way.go:50", #[⟨10, .data⟩, ⟨12, .data⟩, ⟨1, .guard⟩], some (1, Bool.true)⟩) (v := ?vpb13) rfl (by kernel_rfl) (by kernel_rfl) (by kernel_rfl) (fun _ _ _ h => h) (Or.inl ⟨by rfl, ?hpb13⟩) (by assumption) ?rpb13
          case hpb13 => ((intro wz hSw; (try dsimp only at hSw); go_simp); try (with_reducible rfl))
          simp only [Act.put, List.setIfInBounds_toArray, List.set_cons_zero, List.set_cons_succ]
          refine wpAnyH_take (i := 14) (oi := ⟨some 46, .pick (.tmp 33) (.tmp 45) (.const (.bool Bool.false)), 4, "way.go:50", #[⟨1, .data⟩, ⟨13, .data⟩], none⟩) (v := ?vpb14) rfl (by kernel_rfl) (by kernel_rfl) (by kernel_rfl) (fun _ _ _ h => h) (Or.inl ⟨by rfl, ?hpb14⟩) (by assumption) ?rpb14
          case hpb14 => ((intro wz hSw; (try dsimp only at hSw); go_simp); try (with_reducible rfl))
          simp only [Act.put, List.setIfInBounds_toArray, List.set_cons_zero, List.set_cons_succ]
          refine wpAnyH_done (by kernel_rfl) ?_ _
          have hdq : Below Wc.heap.size Wc wp.drew := HBP.out.drew
          obtain ⟨u, hu, hr9⟩ := (HCL.out _ hdq).2.2.2.2.1.way
          dsimp only at hr9
          obtain ⟨uo, uc, hv⟩ := iown_slice hr9
          subst hv
          have q1 := hu.cell
          have q2 := hu.frozen
          have HHU : Hid (Boxed wp.drew (z + 1 + 1) 28 (.slice uo wy.length uc) ∧ wp.drew.ownsRow (z + 1 + 1 + 1 + 1 + 1) 3 1 (.slice uo wy.length uc) wy.length (iv (zs wy))) := ⟨hu, hr9⟩
          have hsz := (HCL.out _ hdq).2.2.2.2.1.sz
          have HDQ : Hid (Below Wc.heap.size Wc wp.drew) := hdq
          obtain ⟨⟨c0, c1, c2⟩, c3, ⟨⟨c4, c5, c6⟩, f4, f5, f6⟩, ⟨c7, c8, c9⟩, _, _⟩ := HCL.out _ hdq
          clear hu hdq
          generalize wp.drew = wq at *
          obtain ⟨i0, hi0⟩ := infoI
          gi_wp2_with (gi_at_builtin; refine wpListIn_append_own _ rfl _ _ 28 rfl (z + 1 + 1 + 1 + 1 + 1) 3 i0 (.int .i64 0) 1 8 Tryz.underlying28 hi0.1 hi0.2.1 hi0.2.2.1 hi0.2.2.2 rfl (by decide) _ _ _ rfl (hr9.alloc _) ⟨wq.heap.size, 0, none⟩ 1 1 [.int .i64 ((fr : Int) + (pc : Int))] rfl rfl (cell_oneU wq _) (fun u hu => by simp at hu; subst hu; rfl) (by unfold maxLen; omega) (by omega) (by simp; omega) ?_; intro v' w9 hown' hgrow _; obtain ⟨g5, cap5, hv5⟩ := ownsRow_succ hown'; subst hv5; obtain ⟨p1, p2, p3⟩ := BKI.add (B := z + 1 + 1 + 1 + 1 + 1) (y := fr + pc) (HCL.out _ HDQ.out).2.2.2.2.1 HZ.out HHU.out.1 HHU.out.2 (by have e9 : ((fr + pc : Nat) : Int) = (fr : Int) + (pc : Int) := (by omega); rw [e9]; exact hown') hgrow; have HQ : Hid (type_of% (And.intro p2 p3)) := And.intro p2 p3; have n1 := far9 (g5 := g5) (cap5 := cap5) HHU.out.1 HHU.out.2 hgrow (HCL.out _ HDQ.out).2.2.2.2.2; have n2 := p2.here; have y1 := p1.cell; have y2 := p1.frozen; clear p1 p2 p3 hown' hgrow; clear c0 c1 c2 c3 c4 c5 c6 c7 c8 c9 f4 f5 f6 q1 q2; obtain ⟨V9, hV9⟩ : ∃ V9, w9.setCell ⟨z + 1 + 1, 0, none⟩ (.slice (some ⟨g5, 0, none⟩) (wy.length + 1) cap5) = V9 := ⟨_, rfl⟩; have HV9 : Hid (w9.setCell ⟨z + 1 + 1, 0, none⟩ (.slice (some ⟨g5, 0, none⟩) (wy.length + 1) cap5) = V9) := hV9; rw [hV9] at n1 n2 HQ; have k0 : V9.cell? ⟨Bx, 0, none⟩ = some (.int .i64 (rk : Int)) := (by simp [World.cell?, n1]); have k1 : V9.cell? ⟨Bx, 1, none⟩ = some (.int .u64 ds) := (by simp [World.cell?, n1]); have k2 : V9.cell? ⟨Bx, 2, none⟩ = some (.bool st) := (by simp [World.cell?, n1]); have k3 : V9.cell? ⟨z + 1 + 1 + 1, 0, none⟩ = some (.int .i64 (hr : Int)) := (by simp [World.cell?, n2]); have k6 : V9.frozen? ⟨z + 1 + 1 + 1, 0, none⟩ = false := (by simp [World.frozen?, n2]); have k4 : V9.cell? ⟨z + 1 + 1 + 1, 1, none⟩ = some (.int .u64 hd) := (by simp [World.cell?, n2]); have k7 : V9.frozen? ⟨z + 1 + 1 + 1, 1, none⟩ = false := (by simp [World.frozen?, n2]); have k5 : V9.cell? ⟨z + 1 + 1 + 1, 2, none⟩ = some (.bool hs) := (by simp [World.cell?, n2]); have k8 : V9.frozen? ⟨z + 1 + 1 + 1, 2, none⟩ = false := (by simp [World.frozen?, n2]); clear n1 n2)
          have HG := HQ.out.1.go (B := z + 1 + 1 + 1 + 1 + 1) HZ.out (rk, ds, st)
          exact ⟨(keepsT_belowU HDQ.out).trans (HQ.out.2.trans HG.2), by show BKI _ _ _ _ _ _ _ _ _ _ _ _ _ (bkAll F Ls fr rch (pre ++ [(m, rk, ds, st)])) _; rw [HST.out]; exact HG.1⟩
        · have e1 : (sm == hd) = false := by simp [hse]
          have HST : Hid (bkAll F Ls fr rch (pre ++ [(m, rk, ds, st)]) = (wy, hr, hd, hs)) := by show _ = _; rw [HSNC.out]; unfold bkStep; rw [if_neg hge, hpc, if_neg (fun q => hse (by have q2 := q.2; rw [hgd, hsm] at q2; exact q2))]
          have hsm' := hsm
          clear hpc hht hl hgd hok hlb
          gi_wp2_with (refine ⟨trivial, ?_⟩; (with_reducible refine (HFI.out _ _ (Below.refl _ _)).mono ?_); rintro e wp ⟨rfl, hbp⟩; have HBP : Hid (Below Wc.heap.size Wc wp) := hbp; clear hbp c0 c1 c2 c3 c4 c5 c6 c7 c8 c9 f4 f5 f6; obtain ⟨⟨c0, c1, c2⟩, c3, ⟨⟨c4, c5, c6⟩, f4, f5, f6⟩, ⟨c7, c8, c9⟩, _, _⟩ := HCL.out wp HBP.out; obtain ⟨cl, ll⟩ := HLW.out wp HBP.out)
          refine region_round (S := fun w' : World => w'.cell? ⟨Bx, 1, none⟩ = some (.int .u64 ds) ∧ w'.cell? ⟨z, 1, none⟩ = some (.slice (some ⟨lb, loff, none⟩) Ls.length lc) ∧ w'.cell? ⟨lb, loff + pc * 4 + 1, none⟩ = some (.int .u64 (l.wt : Int)) ∧ w'.cell? ⟨z + 1 + 1 + 1, 1, none⟩ = some (.int .u64 hd)) (by kernel_rfl) (by kernel_rfl) (fun ⟨_, _, g⟩ => g) (⟨c8, c1, cl, c5⟩) (fun hHeld => ?_)
          refine wpAnyH_take (i := 0) (oi := ⟨some 32, .move (.tmp 12), 4, "way.go:50", #[], none⟩) (v := ?vpc0) rfl (by kernel_rfl) (by kernel_rfl) (by kernel_rfl) (fun _ _ _ h => h) (Or.inl ⟨by rfl, ?hpc0⟩) (by assumption) ?rpc0
          case hpc0 => ((intro wz hSw; (try dsimp only at hSw); go_simp); try (with_reducible rfl))
          simp only [Act.put, List.setIfInBounds_toArray, List.set_cons_zero, List.set_cons_succ]
          refine wpAnyH_take (i := 1) (oi := ⟨some 33, .move (.tmp 32), 4, "way.go:50", #[⟨0, .data⟩], none⟩) (v := ?vpc1) rfl (by kernel_rfl) (by kernel_rfl) (by kernel_rfl) (fun _ _ _ h => h) (Or.inl ⟨by rfl, ?hpc1⟩) (by assumption) ?rpc1
          case hpc1 => ((intro wz hSw; (try dsimp only at hSw); go_simp); try (with_reducible rfl))
          simp only [Act.put, List.setIfInBounds_toArray, List.set_cons_zero, List.set_cons_succ]
          refine wpAnyH_take (i := 2) (oi := ⟨some 34, .fieldAddr 178 (.tmp 10) 1, 0, "way.go:50", #[⟨1, .guard⟩], some (1, Bool.true)⟩) (v := ?vpc2) rfl (by kernel_rfl) (by kernel_rfl) (by kernel_rfl) (fun _ _ _ h => h) (Or.inl ⟨by rfl, ?hpc2⟩) (by assumption) ?rpc2
          case hpc2 => ((intro wz hSw; (try dsimp only at hSw); go_simp); try (with_reducible rfl))
          simp only [Act.put, List.setIfInBounds_toArray, List.set_cons_zero, List.set_cons_succ]
          refine wpAnyH_take (i := 3) (oi := ⟨some 35, .load 45 (.tmp 34), 45, "way.go:50", #[⟨2, .data⟩, ⟨1, .guard⟩], some (1, Bool.true)⟩) (v := ?vpc3) rfl (by kernel_rfl) (by kernel_rfl) (by kernel_rfl) (fun _ _ _ h => h) (Or.inl ⟨by rfl, ?hpc3⟩) (by assumption) ?rpc3
          case hpc3 => ((intro wz hSw; (try dsimp only at hSw); go_simp); try (with_reducible rfl))
          simp only [Act.put, List.setIfInBounds_toArray, List.set_cons_zero, List.set_cons_succ]
          refine wpAnyH_take (i := 4) (oi := ⟨some 36, .fieldAddr 136 (.tmp 3) 1, 0, "way.go:50", #[⟨1, .guard⟩], some (1, Bool.true)⟩) (v := ?vpc4) rfl (by kernel_rfl) (by kernel_rfl) (by kernel_rfl) (fun _ _ _ h => h) (Or.inl ⟨by rfl, ?hpc4⟩) (by assumption) ?rpc4
          case hpc4 => ((intro wz hSw; (try dsimp only at hSw); go_simp); try (with_reducible rfl))
          simp only [Act.put, List.setIfInBounds_toArray, List.set_cons_zero, List.set_cons_succ]
          refine wpAnyH_take (i := 5) (oi := ⟨some 37, .load 23 (.tmp 36), 23, "way.go:50", #[⟨4, .data⟩, ⟨1, .guard⟩], some (1, Bool.true)⟩) (v := ?vpc5) rfl (by kernel_rfl) (by kernel_rfl) (by kernel_rfl) (fun _ _ _ h => h) (Or.inl ⟨by rfl, ?hpc5⟩) (by assumption) ?rpc5
          case hpc5 => ((intro wz hSw; (try dsimp only at hSw); go_simp); try (with_reducible rfl))
          simp only [Act.put, List.setIfInBounds_toArray, List.set_cons_zero, List.set_cons_succ]
          refine wpAnyH_take (i := 6) (oi := ⟨some 38, .move (.tmp 11), 3, "way.go:50", #[⟨1, .guard⟩], some (1, Bool.true)⟩) (v := ?vpc6) rfl (by kernel_rfl) (by kernel_rfl) (by kernel_rfl) (fun _ _ _ h => h) (Or.inl ⟨by rfl, ?hpc6⟩) (by assumption) ?rpc6
          case hpc6 => ((intro wz hSw; (try dsimp only at hSw); go_simp); try (with_reducible rfl))
          simp only [Act.put, List.setIfInBounds_toArray, List.set_cons_zero, List.set_cons_succ]
          refine wpAnyH_take (i := 7) (oi := ⟨some 39, .indexAddr 23 (.tmp 37) (.tmp 38), 0, "way.go:50", #[⟨5, .data⟩, ⟨6, .data⟩, ⟨1, .guard⟩], some (1, Bool.true)⟩) (v := ?vpc7) rfl (by kernel_rfl) (by kernel_rfl) (by kernel_rfl) (fun _ _ _ h => h) (Or.inl ⟨by rfl, ?hpc7⟩) (by assumption) ?rpc7
          case hpc7 => ((intro wz hSw; (try dsimp only at hSw); go_simp); try (with_reducible rfl))
          simp only [Act.put, List.setIfInBounds_toArray, List.set_cons_zero, List.set_cons_succ]
          refine wpAnyH_take (i := 8) (oi := ⟨some 40, .fieldAddr 65 (.tmp 39) 1, 0, "way.go:50", #[⟨7, .data⟩, ⟨1, .guard⟩], some (1, Bool.true)⟩) (v := ?vpc8) rfl (by kernel_rfl) (by kernel_rfl) (by kernel_rfl) (fun _ _ _ h => h) (Or.inl ⟨by rfl, ?hpc8⟩) (by assumption) ?rpc8
          case hpc8 => ((intro wz hSw; (try dsimp only at hSw); go_simp); try (with_reducible rfl))
          simp only [Act.put, List.setIfInBounds_toArray, List.set_cons_zero, List.set_cons_succ]
          refine wpAnyH_take (i := 9) (oi := ⟨some 41, .load 45 (.tmp 40), 45, "way.go:50", #[⟨8, .data⟩, ⟨1, .guard⟩], some (1, Bool.true)⟩) (v := ?vpc9) rfl (by kernel_rfl) (by kernel_rfl) (by kernel_rfl) (fun _ _ _ h => h) (Or.inl ⟨by rfl, ?hpc9⟩) (by assumption) ?rpc9
          case hpc9 => ((intro wz hSw; (try dsimp only at hSw); go_simp); try (with_reducible rfl))
          simp only [Act.put, List.setIfInBounds_toArray, List.set_cons_zero, List.set_cons_succ]
          refine wpAnyH_take (i := 10) (oi := ⟨some 42, .binOp .add 45 (.tmp 35) (.tmp 41) 45, 45, "way.go:50", #[⟨3, .data⟩, ⟨9, .data⟩, ⟨1, .guard⟩], some (1, Bool.true)⟩) (v := ?vpc10) rfl (by kernel_rfl) (by kernel_rfl) (by kernel_rfl) (fun _ _ _ h => h) (Or.inl ⟨by rfl, ?hpc10⟩) (by assumption) ?rpc10
          case hpc10 => ((intro wz hSw; (try dsimp only at hSw); go_simp); try (with_reducible rfl))
          simp only [Act.put, List.setIfInBounds_toArray, List.set_cons_zero, List.set_cons_succ]
          refine wpAnyH_take (i := 11) (oi := ⟨some 43, .fieldAddr 178 (.tmp 8) 1, 0, "way.go:50", #[⟨1, .guard⟩], some (1, Bool.true)⟩) (v := ?vpc11) rfl (by kernel_rfl) (by kernel_rfl) (by kernel_rfl) (fun _ _ _ h => h) (Or.inl ⟨by rfl, ?hpc11⟩) (by assumption) ?rpc11
          case hpc11 => ((intro wz hSw; (try dsimp only at hSw); go_simp); try (with_reducible rfl))
          simp only [Act.put, List.setIfInBounds_toArray, List.set_cons_zero, List.set_cons_succ]
          refine wpAnyH_take (i := 12) (oi := ⟨some 44, .load 45 (.tmp 43), 45, "way.go:50", #[⟨11, .data⟩, ⟨1, .guard⟩], some (1, Bool.true)⟩) (v := ?vpc12) rfl (by kernel_rfl) (by kernel_rfl) (by kernel_rfl) (fun _ _ _ h => h) (Or.inl ⟨by rfl, ?hpc12⟩) (by assumption) ?rpc12
          case hpc12 => ((intro wz hSw; (try dsimp only at hSw); go_simp); try (with_reducible rfl))
          simp only [Act.put, List.setIfInBounds_toArray, List.set_cons_zero, List.set_cons_succ]
          refine wpAnyH_take (i := 13) (oi := ⟨some 45, .binOp .eql 45 (.tmp 42) (.tmp 44) 45, 4, "way.go:50", #[⟨10, .data⟩, ⟨12, .data⟩, ⟨1, .guard⟩], some (1, Bool.true)⟩) (v := ?vpc13) rfl (by kernel_rfl) (by kernel_rfl) (by kernel_rfl) (fun _ _ _ h => h) (Or.inl ⟨by rfl, ?hpc13⟩) (by assumption) ?rpc13
          case hpc13 => ((intro wz hSw; (try dsimp only at hSw); go_simp); try (with_reducible rfl))
          simp only [Act.put, List.setIfInBounds_toArray, List.set_cons_zero, List.set_cons_succ]
          refine wpAnyH_take (i := 14) (oi := ⟨some 46, .pick (.tmp 33) (.tmp 45) (.const (.bool Bool.false)), 4, "way.go:50", #[⟨1, .data⟩, ⟨13, .data⟩], none⟩) (v := ?vpc14) rfl (by kernel_rfl) (by kernel_rfl) (by kernel_rfl) (fun _ _ _ h => h) (Or.inl ⟨by rfl, ?hpc14⟩) (by assumption) ?rpc14
          case hpc14 => ((intro wz hSw; (try dsimp only at hSw); go_simp); try (with_reducible rfl))
          simp only [Act.put, List.setIfInBounds_toArray, List.set_cons_zero, List.set_cons_succ]
          refine wpAnyH_done (by kernel_rfl) ?_ _
          gi_wp2
          have hdq : Below Wc.heap.size Wc wp.drew := HBP.out.drew
          exact ⟨keepsT_belowU hdq, by show BKI _ _ _ _ _ _ _ _ _ _ _ _ _ (bkAll F Ls fr rch (pre ++ [(m, rk, ds, st)])) _; rw [HST.out]; exact HHI.out.below hdq⟩
  case done =>
    rintro D Wd hD hi hK
    obtain ⟨u, hu, hr⟩ := hi.way
    obtain ⟨mo, mc, hv⟩ := iown_slice hr
    subst hv
    have q1 := hu.cell
    have HHI : Hid (BKI w z fo lo so fc lc sc F Ls X fr rch (bkAll F Ls fr rch (bkw X)) Wd ∧ Wd.ownsRow (z + 1 + 1 + 1 + 1 + 1) 3 1 (.slice mo (bkAll F Ls fr rch (bkw X)).1.length mc) (bkAll F Ls fr rch (bkw X)).1.length (iv (zs (bkAll F Ls fr rch (bkw X)).1))) := ⟨hi, hr⟩
    have HKD : Hid (Wd.heap[D]? = some (.deferred (some []))) := hK
    rw [hs1] at hD
    clear hi hr hK hu
    go_wp2
    have f1 := HKD.out
    have hDn : w.heap.size ≤ D := by have := HZ.out; omega
    have far : ∀ k, k ≠ D → (Wd.putObj D (.deferred none)).heap[k]? = Wd.heap[k]? := fun k hk => World.putObj_heap_other hk
    refine ⟨fun ch e => (by cases e), by simp, .inl ⟨_, _, rfl, run_takeDeferred f1, ?_⟩⟩
    refine ⟨_, results_tmp rfl _ _ _, mo, mc, rfl, ?_, ?_⟩
    · refine own_lowU (iown_keep HHI.out.2 fun k hk => far k (fun e => ?_)) (by have := HZ.out; omega)
      rcases HHI.out.2.2 with ⟨e2, _⟩ | ⟨g, cap, cur, e2, _, hh, _⟩
      · rw [e2] at hk; cases hk
      · rw [e2] at hk
        have e3 : g = k := Option.some.inj hk
        rw [e3, e, f1] at hh
        cases hh
    · exact HHI.out.1.bl.trans ((Turn.refl TnC w.heap.size Wd).putObj hDn f1 rfl _).below
end Go.Proofs.YtodilocmfdeehaaGreatDoor.Hi

namespace Go.Proofs.YtodilocmfdeehaaGreatDoor.Hi
open Go.RowKit Go.Extern Go.Sort Cb

attribute [local go_sem] Oper.semAt_some

/-- what is nil has no room; what is not lies in a block of its own. -/
def NilI (ao : Option Addr) (ac : Nat) : Prop := (ao = none → ac = 0) ∧ ∀ a, ao = some a → a.spot = none
theorem nilI_own {w : World} {B n c : Nat} {mo : Option Addr} {xs : List Value} (h : w.ownsRow B 3 1 (.slice mo n c) n xs) : NilI mo c := by
  rcases h.2 with ⟨e, _⟩ | ⟨g, cap, cur, e, _⟩
  · cases e
    exact ⟨fun _ => rfl, fun a ha => by cases ha⟩
  · cases e
    exact ⟨(fun e => by cases e), fun a ha => by cases ha; rfl⟩
theorem wpList_append_O {w : World} {ops : Array Oper} {rest : List Oper} {o : Oper} {a : Act} {Q : Exit → Act → World → Prop} (hgd : o.guard = none) (s x : Operand)
    (ho : o.op = .call { callee := .builtin .append, args := #[s, x], argTypes := #[28, 28] })
    (base : Nat) (v : Value) (L : List Int) (hs : a.eval s = v) (hown : w.ownsRow base 3 1 v L.length (iv L))
    (ao : Option Addr) (ac : Nat) (xs : List Int) (hx : a.eval x = .slice ao xs.length ac) (hl : HasInts w (.slice ao xs.length ac) xs) (hn : NilI ao ac)
    (hlen : (L.length + xs.length) * 8 ≤ 140737488355328) (hbase : base ≤ w.heap.size)
    (h : ∀ v' w', w'.ownsRow base 3 1 v' (L ++ xs).length (iv (L ++ xs)) → w.grownBy w' v.ownBlock → wpList Tryz.prog ops Q rest (a.put o.dst v') w') : wpList Tryz.prog ops Q (o :: rest) a w := by
  cases ao with
  | none =>
    have e0 : xs = [] := by
      cases xs with
      | nil => rfl
      | cons y r =>
        obtain ⟨ao', ac', e, hc⟩ := hl
        obtain ⟨b, off, e2, _⟩ := hc 0 y rfl
        cases e
        cases e2
    subst e0
    have e1 := hn.1 rfl
    subst e1
    obtain ⟨i0, hi0⟩ := infoI
    refine wpList_append_own_none hgd s x 28 ho base 3 i0 1 Tryz.underlying28 hi0.1 v L.length (iv L) hs hown hx ?_
    exact h v w (by rw [List.append_nil]; exact hown) (World.grownBy.refl w _)
  | some ad =>
    obtain ⟨b, off, sp⟩ := ad
    have e1 := hn.2 _ rfl
    dsimp only at e1
    subst e1
    exact wpList_append_ints hgd s x ho base v L hs hown b off ac xs hx hl hlen hbase h

set_option maxRecDepth 100000 in
set_option maxHeartbeats 2000000 in
theorem growI_calls (n : Nat) (w : World) (hn : n * 8 ≤ 140737488351232) :
    Calls Tryz.prog 95 #[.slice none 0 0, .int .i64 (n : Int)] w fun e w' => ∃ v, e = .returned v ∧ w'.ownsRow w.heap.size 3 1 v 0 [] ∧ Below w.heap.size w w' := by
  obtain ⟨i0, hi, hz0, hz1, hz2⟩ : ∃ i, Tryz.prog.info? 3 = some i ∧ i.zero = some (.int .i64 0) ∧ i.size = 1 ∧ i.bytes = 8 := by
    have h := infoJ
    cases hi : Tryz.prog.info? 3 with
    | none => rw [hi] at h; cases h
    | some i => rw [hi] at h; simp at h; exact ⟨i, rfl, h.1, h.2.1, h.2.2⟩
  have hw : IntKind.i64.wrap ((n : Int) - (0 - 0)) = n := by rw [IntKind.wrap_i64] <;> omega
  have hw2 : IntKind.i64.wrap (n : Int) = n := by rw [IntKind.wrap_i64] <;> omega
  by_cases h0 : n = 0
  · subst h0
    go_enter Tryz.func95, Tryz.ntmps95
    go_wp2
    go_ret
    exact ⟨_, rfl, World.ownsRow_nil _ _ _ _, Below.refl _ _⟩
  · have hrun := Lib.run_append_nil_zeros (P := Tryz.prog) w 28 3 28 3 i0 (.int .i64 0) .i64 .i64 Tryz.underlying28 Tryz.underlying3 hi hz0 n (by omega) (by omega) (by omega) (by rw [hz2]; omega)
    have hcap := grownCap_ge w n 0 3
    have hcm := grownCap_le_maxLen w n 0 3 (by unfold maxLen; omega)
    have HN : Hid ((w.drew.alloc (.cells (Builtin.zeroCells (Value.int .i64 0).cells n ++ Builtin.zeroCells (Value.int .i64 0).cells (grownCap w n 0 3 - n)) 3)).heap[w.heap.size]? = some (.cells (Builtin.zeroCells (Value.int .i64 0).cells n ++ Builtin.zeroCells (Value.int .i64 0).cells (grownCap w n 0 3 - n)) 3)) := heap_new w.drew _
    have HZ : Hid ((Builtin.zeroCells (Value.int .i64 0).cells n ++ Builtin.zeroCells (Value.int .i64 0).cells (grownCap w n 0 3 - n)).size = grownCap w n 0 3 * 1) := by
      show _ = _
      rw [Array.size_append, size_zeroCells, size_zeroCells]
      show n * 1 + (grownCap w n 0 3 - n) * 1 = _
      omega
    have HB : Hid (Below w.heap.size w (w.drew.alloc (.cells (Builtin.zeroCells (Value.int .i64 0).cells n ++ Builtin.zeroCells (Value.int .i64 0).cells (grownCap w n 0 3 - n)) 3))) := (Below.refl _ w).drew.alloc (Nat.le_refl _) _
    generalize Builtin.zeroCells (Value.int .i64 0).cells n ++ Builtin.zeroCells (Value.int .i64 0).cells (grownCap w n 0 3 - n) = Z at *
    generalize grownCap w n 0 3 = C at *
    have HR : Hid ((Builtin.append_ #[28, 3] 28 #[.slice none 0 0, .int .i64 (n : Int)]).run Tryz.prog w = .ok (.slice (some ⟨w.heap.size, 0, none⟩) n C) (w.drew.alloc (.cells Z 3))) := hrun
    clear hrun
    have hpos : (0 : Int) < n := by omega
    go_enter Tryz.func95, Tryz.ntmps95
    go_wp2_with (at_builtin; refine Lib.wpList_append_run _ rfl _ _ _ _ rfl _ _ rfl rfl _ _ HR.out ?_)
    go_wp2
    go_ret
    exact ⟨_, rfl, ⟨rfl, Or.inr ⟨w.heap.size, C, Z, rfl, Nat.le_refl _, HN.out, Nat.zero_le _, hcm, HZ.out, rfl⟩⟩, HB.out⟩

set_option maxRecDepth 100000 in
set_option maxHeartbeats 4000000 in
theorem concatO_calls (b : Nat) (xo yo : Option Addr) (ac bc : Nat) (xs ys : List Int) (w : World) (h0 : w.cell? ⟨b, 0, none⟩ = some (.slice xo xs.length ac)) (h1 : w.cell? ⟨b, 1, none⟩ = some (.slice yo ys.length bc))
    (hx : HasInts w (.slice xo xs.length ac) xs) (hy : HasInts w (.slice yo ys.length bc) ys) (hxn : NilI xo ac) (hyn : NilI yo bc) (hm : (xs.length + ys.length) * 8 ≤ 140737488351232) :
    Calls Tryz.prog 74 #[.slice (some ⟨b, 0, none⟩) 2 2] w (LA w (xs ++ ys)) := by
  have hlb : b < w.heap.size := by
    rcases Nat.lt_or_ge b w.heap.size with h | h
    · exact h
    · simp [World.cell?, Array.getElem?_eq_none h] at h0
  have HG : Hid (Calls Tryz.prog 95 #[.slice none 0 0, .int .i64 ((xs.length + ys.length : Nat) : Int)] w fun e w' => ∃ v, e = .returned v ∧ w'.ownsRow w.heap.size 3 1 v 0 [] ∧ Below w.heap.size w w') := growI_calls _ w (by omega)
  have HX : Hid (HasInts w (.slice xo xs.length ac) xs) := hx
  have HY : Hid (HasInts w (.slice yo ys.length bc) ys) := hy
  have e1 : ((xs.length + ys.length : Nat) : Int) = (xs.length : Int) + (ys.length : Int) := by omega
  rw [e1] at HG
  have HH : Hid (w.cell? ⟨b, 0, none⟩ = some (.slice xo xs.length ac) ∧ w.cell? ⟨b, 1, none⟩ = some (.slice yo ys.length bc)) := ⟨h0, h1⟩
  have HXN : Hid (NilI xo ac) := hxn
  have HYN : Hid (NilI yo bc) := hyn
  clear hx hy hxn hyn
  go_enter Tryz.func74, Tryz.ntmps74
  go_wp2_with fail
  refine wp_loop_rounds 3 ?_
  rw [rounds_succ]
  go_wp2
  rw [rounds_succ]
  go_wp2
  rw [rounds_succ]
  go_wp2_with fail
  refine HG.out.mono ?_
  rintro e w1 ⟨v, rfl, hown, hb⟩
  obtain ⟨so, sc, hv⟩ := iown_slice hown
  subst hv
  have HO : Hid (w1.ownsRow w.heap.size 3 1 (.slice so 0 sc) 0 []) := hown
  have HB1 : Hid (Below w.heap.size w w1) := hb
  have g0 := (hb.cell (p := ⟨b, 0, none⟩) hlb).trans HH.out.1
  have g1 := (hb.cell (p := ⟨b, 1, none⟩) hlb).trans HH.out.2
  clear hown hb h0 h1
  go_wp2_with fail
  refine wp_loop_rounds 3 ?_
  rw [rounds_succ]
  go_wp2_with (at_builtin; refine wpList_append_O rfl _ _ rfl w.heap.size (.slice so 0 sc) [] rfl HO.out xo ac xs rfl (HX.out.keep HB1.out) HXN.out (by simp; omega) HB1.out.size ?_; intro v' w2 hown2 hgr2; obtain ⟨so2, sc2, hv2⟩ := iown_slice hown2; subst hv2; have HO2 : Hid (w2.ownsRow w.heap.size 3 1 (.slice so2 ([] ++ xs).length sc2) ([] ++ xs).length (iv ([] ++ xs))) := hown2; have HB2 : Hid (Below w.heap.size w w2) := below_g HB1.out hgr2 (fun k e => (HO.out.lt k e.symm).1); have k0 : w2.cell? ⟨b, 0, none⟩ = some (.slice xo xs.length ac) := (HB2.out.cell (p := ⟨b, 0, none⟩) hlb).trans HH.out.1; have k1 : w2.cell? ⟨b, 1, none⟩ = some (.slice yo ys.length bc) := (HB2.out.cell (p := ⟨b, 1, none⟩) hlb).trans HH.out.2; clear hown2 hgr2 g0 g1)
  rw [rounds_succ]
  go_wp2_with (at_builtin; refine wpList_append_O rfl _ _ rfl w.heap.size (.slice so2 ([] ++ xs).length sc2) ([] ++ xs) rfl HO2.out yo bc ys rfl (HY.out.keep HB2.out) HYN.out (by simp; omega) HB2.out.size ?_; intro v' w3 hown3 hgr3; obtain ⟨so3, sc3, hv3⟩ := iown_slice hown3; subst hv3; have HO3 : Hid (w3.ownsRow w.heap.size 3 1 (.slice so3 (([] ++ xs) ++ ys).length sc3) (([] ++ xs) ++ ys).length (iv (([] ++ xs) ++ ys))) := hown3; have HB3 : Hid (Below w.heap.size w w3) := below_g HB2.out hgr3 (fun k e => (HO2.out.lt k e.symm).1); have q0 : w3.cell? ⟨b, 0, none⟩ = some (.slice xo xs.length ac) := (HB3.out.cell (p := ⟨b, 0, none⟩) hlb).trans HH.out.1; have q1 : w3.cell? ⟨b, 1, none⟩ = some (.slice yo ys.length bc) := (HB3.out.cell (p := ⟨b, 1, none⟩) hlb).trans HH.out.2; clear hown3 hgr3 k0 k1)
  rw [rounds_succ]
  go_wp2
  go_ret
  exact ⟨so3, sc3, congrArg (fun n : Nat => Ending.returned (.slice so3 n sc3)) List.length_append.symm, HO3.out, HB3.out⟩

end Go.Proofs.YtodilocmfdeehaaGreatDoor.Hi

namespace Go.Proofs.YtodilocmfdeehaaGreatDoor.Hi
open Go.RowKit Go.Extern Cb

attribute [local go_sem] Oper.semAt_some

theorem uups_res {W : World} {z : Nat} {x0 x1 x2 : Value} {tmps : Array Value} (h1 : W.heap[z]? = some (.cells #[x0, x1, x2] 136)) (t2 : tmps[2]?.getD undef = .pointer (some ⟨z, 0, none⟩)) :
    (results Tryz.f75 tmps).run Tryz.prog W = .ok (.agg #[x0, x1, x2]) W := by
  have c0 : W.cell? ⟨z, 0, none⟩ = some x0 := by simp [World.cell?, h1]
  have c1 : W.cell? ⟨z, 1, none⟩ = some x1 := by simp [World.cell?, h1]
  have c2 : W.cell? ⟨z, 2, none⟩ = some x2 := by simp [World.cell?, h1]
  simp [results, Tryz.results75, go_sem, t2, c0, c1, c2]
set_option maxRecDepth 100000 in
set_option maxHeartbeats 2000000 in
theorem uups_calls (v : HV) (h : Hr) (w : World) : Calls Tryz.prog 75 #[hvl v h] w fun e w' => e = .returned (.agg #[.slice v.uo h.upF.length v.uc, .slice v.ul h.up.length v.ulc, .int .i64 0]) ∧ Below w.heap.size w w' := by
  obtain ⟨z, hz⟩ : ∃ z, w.heap.size = z := ⟨_, rfl⟩
  obtain ⟨W0, hW0⟩ : ∃ W0, (w.alloc (.cells #[.slice v.no h.node.length v.nc, .slice v.uo h.upF.length v.uc, .slice v.ul h.up.length v.ulc, .slice v.wo h.dnF.length v.wc, .slice v.dl h.dn.length v.dlc] 25)).alloc (.cells #[.slice none 0 0, .slice none 0 0, .int .i64 0] 136) = W0 := ⟨_, rfl⟩
  have HW0 : Hid ((w.alloc (.cells #[.slice v.no h.node.length v.nc, .slice v.uo h.upF.length v.uc, .slice v.ul h.up.length v.ulc, .slice v.wo h.dnF.length v.wc, .slice v.dl h.dn.length v.dlc] 25)).alloc (.cells #[.slice none 0 0, .slice none 0 0, .int .i64 0] 136) = W0) := hW0
  have hB0 : Below w.heap.size w W0 := by rw [← hW0]; exact ((Below.refl _ w).alloc (Nat.le_refl _) _).alloc (by simp) _
  have h0 : W0.heap[z]? = some (.cells #[.slice v.no h.node.length v.nc, .slice v.uo h.upF.length v.uc, .slice v.ul h.up.length v.ulc, .slice v.wo h.dnF.length v.wc, .slice v.dl h.dn.length v.dlc] 25) := by
    rw [← hW0, ← hz]; exact (Below.heap_alloc _ _ _ (by simp)).trans (heap_newW _ _)
  have h1 : W0.heap[z + 1]? = some (.cells #[.slice none 0 0, .slice none 0 0, .int .i64 0] 136) := by
    have g := heap_newW (w.alloc (.cells #[.slice v.no h.node.length v.nc, .slice v.uo h.upF.length v.uc, .slice v.ul h.up.length v.ulc, .slice v.wo h.dnF.length v.wc, .slice v.dl h.dn.length v.dlc] 25)) (.cells #[.slice none 0 0, .slice none 0 0, .int .i64 0] 136)
    rw [World.size_alloc, hW0, hz] at g
    exact g
  obtain ⟨c0, c1, c2, c3, c4⟩ := five_cells h0
  have H1 : Hid (W0.heap[z + 1]? = some (.cells #[.slice none 0 0, .slice none 0 0, .int .i64 0] 136) ∧ Below w.heap.size w W0 ∧ w.heap.size = z) := ⟨h1, hB0, hz⟩
  have e0 : W0.cell? ⟨z + 1, 0, none⟩ = some (.slice none 0 0) := by simp [World.cell?, h1]
  have e1 : W0.cell? ⟨z + 1, 1, none⟩ = some (.slice none 0 0) := by simp [World.cell?, h1]
  have e2 : W0.cell? ⟨z + 1, 2, none⟩ = some (.int .i64 0) := by simp [World.cell?, h1]
  have y0 : W0.frozen? ⟨z + 1, 0, none⟩ = false := by simp [World.frozen?, h1]
  have y1 : W0.frozen? ⟨z + 1, 1, none⟩ = false := by simp [World.frozen?, h1]
  have y2 : W0.frozen? ⟨z + 1, 2, none⟩ = false := by simp [World.frozen?, h1]
  clear hW0 hB0 h0 h1
  unfold hvl
  go_enter Tryz.func75, Tryz.ntmps75
  go_upto_region 1 with fail
  rw [HW0.out]
  go_wp2
  have hS := set_threeU H1.out.1 (.slice v.uo h.upF.length v.uc) (.slice v.ul h.up.length v.ulc) (.int .i64 0)
  refine bodyPost_ret (uups_res hS rfl) rfl ⟨rfl, ?_⟩
  have hle : w.heap.size ≤ z + 1 := by have := H1.out.2.2; omega
  exact ((H1.out.2.1.setCell (p := ⟨z + 1, 0, none⟩) hle _).setCell (p := ⟨z + 1, 1, none⟩) hle _).setCell (p := ⟨z + 1, 2, none⟩) hle _
theorem udowns_res {W : World} {z : Nat} {x0 x1 x2 : Value} {tmps : Array Value} (h1 : W.heap[z]? = some (.cells #[x0, x1, x2] 136)) (t2 : tmps[2]?.getD undef = .pointer (some ⟨z, 0, none⟩)) :
    (results Tryz.f77 tmps).run Tryz.prog W = .ok (.agg #[x0, x1, x2]) W := by
  have c0 : W.cell? ⟨z, 0, none⟩ = some x0 := by simp [World.cell?, h1]
  have c1 : W.cell? ⟨z, 1, none⟩ = some x1 := by simp [World.cell?, h1]
  have c2 : W.cell? ⟨z, 2, none⟩ = some x2 := by simp [World.cell?, h1]
  simp [results, Tryz.results77, go_sem, t2, c0, c1, c2]
set_option maxRecDepth 100000 in
set_option maxHeartbeats 2000000 in
theorem udowns_calls (v : HV) (h : Hr) (w : World) : Calls Tryz.prog 77 #[hvl v h] w fun e w' => e = .returned (.agg #[.slice v.wo h.dnF.length v.wc, .slice v.dl h.dn.length v.dlc, .int .i64 (h.up.length : Int)]) ∧ Below w.heap.size w w' := by
  obtain ⟨z, hz⟩ : ∃ z, w.heap.size = z := ⟨_, rfl⟩
  obtain ⟨W0, hW0⟩ : ∃ W0, (w.alloc (.cells #[.slice v.no h.node.length v.nc, .slice v.uo h.upF.length v.uc, .slice v.ul h.up.length v.ulc, .slice v.wo h.dnF.length v.wc, .slice v.dl h.dn.length v.dlc] 25)).alloc (.cells #[.slice none 0 0, .slice none 0 0, .int .i64 0] 136) = W0 := ⟨_, rfl⟩
  have HW0 : Hid ((w.alloc (.cells #[.slice v.no h.node.length v.nc, .slice v.uo h.upF.length v.uc, .slice v.ul h.up.length v.ulc, .slice v.wo h.dnF.length v.wc, .slice v.dl h.dn.length v.dlc] 25)).alloc (.cells #[.slice none 0 0, .slice none 0 0, .int .i64 0] 136) = W0) := hW0
  have hB0 : Below w.heap.size w W0 := by rw [← hW0]; exact ((Below.refl _ w).alloc (Nat.le_refl _) _).alloc (by simp) _
  have h0 : W0.heap[z]? = some (.cells #[.slice v.no h.node.length v.nc, .slice v.uo h.upF.length v.uc, .slice v.ul h.up.length v.ulc, .slice v.wo h.dnF.length v.wc, .slice v.dl h.dn.length v.dlc] 25) := by
    rw [← hW0, ← hz]; exact (Below.heap_alloc _ _ _ (by simp)).trans (heap_newW _ _)
  have h1 : W0.heap[z + 1]? = some (.cells #[.slice none 0 0, .slice none 0 0, .int .i64 0] 136) := by
    have g := heap_newW (w.alloc (.cells #[.slice v.no h.node.length v.nc, .slice v.uo h.upF.length v.uc, .slice v.ul h.up.length v.ulc, .slice v.wo h.dnF.length v.wc, .slice v.dl h.dn.length v.dlc] 25)) (.cells #[.slice none 0 0, .slice none 0 0, .int .i64 0] 136)
    rw [World.size_alloc, hW0, hz] at g
    exact g
  obtain ⟨c0, c1, c2, c3, c4⟩ := five_cells h0
  have H1 : Hid (W0.heap[z + 1]? = some (.cells #[.slice none 0 0, .slice none 0 0, .int .i64 0] 136) ∧ Below w.heap.size w W0 ∧ w.heap.size = z) := ⟨h1, hB0, hz⟩
  have e0 : W0.cell? ⟨z + 1, 0, none⟩ = some (.slice none 0 0) := by simp [World.cell?, h1]
  have e1 : W0.cell? ⟨z + 1, 1, none⟩ = some (.slice none 0 0) := by simp [World.cell?, h1]
  have e2 : W0.cell? ⟨z + 1, 2, none⟩ = some (.int .i64 0) := by simp [World.cell?, h1]
  have y0 : W0.frozen? ⟨z + 1, 0, none⟩ = false := by simp [World.frozen?, h1]
  have y1 : W0.frozen? ⟨z + 1, 1, none⟩ = false := by simp [World.frozen?, h1]
  have y2 : W0.frozen? ⟨z + 1, 2, none⟩ = false := by simp [World.frozen?, h1]
  clear hW0 hB0 h0 h1
  unfold hvl
  go_enter Tryz.func77, Tryz.ntmps77
  go_upto_region 1 with fail
  rw [HW0.out]
  go_wp2
  have hS := set_threeU H1.out.1 (.slice v.wo h.dnF.length v.wc) (.slice v.dl h.dn.length v.dlc) (.int .i64 (h.up.length : Int))
  refine bodyPost_ret (udowns_res hS rfl) rfl ⟨rfl, ?_⟩
  have hle : w.heap.size ≤ z + 1 := by have := H1.out.2.2; omega
  exact ((H1.out.2.1.setCell (p := ⟨z + 1, 0, none⟩) hle _).setCell (p := ⟨z + 1, 1, none⟩) hle _).setCell (p := ⟨z + 1, 2, none⟩) hle _
end Go.Proofs.YtodilocmfdeehaaGreatDoor.Hi

namespace Go.Proofs.YtodilocmfdeehaaGreatDoor.Hi
open Go.RowKit Go.Extern Cb

theorem link_rises {h : Hr} (hc : chk h = (0, [])) {i : Nat} (hi : i + 1 < (stds h).length) (h1 : (lkO h i).rk = (lkO h (i + 1)).rk) (h2 : (lkO h i).up = (lkO h (i + 1)).up) : (lkO h i).lk.hd < (lkO h (i + 1)).lk.hd := by
  obtain ⟨k1, k2, k3, k4, k5, k6, k7, k8⟩ := chk_ok hc
  have h0 := ferr_all k8 (i + 1) (Nat.zero_le _) (by omega)
  unfold lerr at h0
  split at h0
  · exact absurd h0 (by decide)
  · rename_i h3
    simp only [not_or, Bool.not_eq_false] at h3
    have h4 := h3.1
    unfold rising at h4
    rw [Nat.add_sub_cancel] at h4
    have h5 : sameRow (sd (stds h) i) (sd (stds h) (i + 1)) = true := by
      have e1 : (sd (stds h) i).rk = (sd (stds h) (i + 1)).rk := h1
      have e2 : (sd (stds h) i).up = (sd (stds h) (i + 1)).up := h2
      unfold sameRow
      rw [e1, e2]
      simp
    rw [h5] at h4
    simp at h4
    exact h4
theorem pair_of_step {L : List Nat} (h : ∀ k a b, L[k]? = some a → L[k + 1]? = some b → a ≤ b) : L.Pairwise (· ≤ ·) := by
  induction L with
  | nil => exact List.Pairwise.nil
  | cons x r ih =>
    have ih2 := ih (fun k a b ha hb => h (k + 1) a b (by simpa using ha) (by simpa using hb))
    refine List.Pairwise.cons (fun y hy => ?_) ih2
    cases r with
    | nil => cases hy
    | cons z t =>
      have e1 := h 0 x z rfl rfl
      rcases List.mem_cons.1 hy with rfl | hy
      · exact e1
      · exact Nat.le_trans e1 ((List.pairwise_cons.1 ih2).1 y hy)
theorem below_in {F : List Nat} {m r i : Nat} (h : FOk F m) (hr : r + 1 < F.length) (h1 : nth F r ≤ i) (h2 : i < nth F (r + 1)) : below32 F (i + 1) = r + 1 := by
  refine below32_at (by omega) (fun t a ht ha => ?_) (fun t a ht ha => ?_)
  · have q := h.mono (a := t) (b := r) (by omega) (by omega)
    rw [nth_of ha] at q
    omega
  · have hl := (List.getElem?_eq_some_iff.1 ha).1
    have q := h.mono (a := r + 1) (b := t) (by omega) (by omega)
    rw [nth_of ha] at q
    omega
theorem rowL_get {F : List Nat} {L : List Lk} {r k : Nat} {l : Lk} (h : (rowL F L r)[k]? = some l) : L[nth F r + k]? = some l ∧ nth F r + k < nth F (r + 1) := by
  unfold rowL at h
  rw [List.getElem?_take] at h
  split at h
  · rw [List.getElem?_drop] at h
    exact ⟨h, by omega⟩
  · cases h
theorem up_rises {h : Hr} (hc : chk h = (0, [])) {r : Nat} (hr : r < h.node.length) : (hds (rowL h.upF h.up r)).Pairwise (· ≤ ·) := by
  obtain ⟨k1, k2, k3, k4, k5, k6, k7, k8⟩ := chk_ok hc
  have hlen := stds_len k5 k6
  refine pair_of_step fun k a b ha hb => ?_
  obtain ⟨la, ha1, rfl⟩ := hds_inv ha
  obtain ⟨lb, hb1, rfl⟩ := hds_inv hb
  obtain ⟨a1, a2⟩ := rowL_get ha1
  obtain ⟨b1, b2⟩ := rowL_get hb1
  have al := (List.getElem?_eq_some_iff.1 a1).1
  have bl := (List.getElem?_eq_some_iff.1 b1).1
  rw [← Nat.add_assoc] at b1 b2 bl
  obtain ⟨u1, s1⟩ := stand_up hc al
  obtain ⟨u2, s2⟩ := stand_up hc bl
  rw [below_in k5 (by omega) (by omega) a2] at s1
  rw [below_in k5 (by omega) (by omega) b2] at s2
  have g := link_rises hc (i := nth h.upF r + k) (by omega) (by omega) (by rw [u1, u2])
  have ea : (lkO h (nth h.upF r + k)).lk = la := by
    have q := (link_ok hc (i := nth h.upF r + k) (by omega)).lk
    unfold linkAt at q
    rw [List.getD_eq_getElem?_getD, List.getElem?_append_left al, a1] at q
    exact q.symm
  have eb : (lkO h (nth h.upF r + k + 1)).lk = lb := by
    have q := (link_ok hc (i := nth h.upF r + k + 1) (by omega)).lk
    unfold linkAt at q
    rw [List.getD_eq_getElem?_getD, List.getElem?_append_left bl, b1] at q
    exact q.symm
  rw [ea, eb] at g
  omega
theorem dn_rises {h : Hr} (hc : chk h = (0, [])) {r : Nat} (hr : r < h.node.length) : (hds (rowL h.dnF h.dn r)).Pairwise (· ≤ ·) := by
  obtain ⟨k1, k2, k3, k4, k5, k6, k7, k8⟩ := chk_ok hc
  have hlen := stds_len k5 k6
  refine pair_of_step fun k a b ha hb => ?_
  obtain ⟨la, ha1, rfl⟩ := hds_inv ha
  obtain ⟨lb, hb1, rfl⟩ := hds_inv hb
  obtain ⟨a1, a2⟩ := rowL_get ha1
  obtain ⟨b1, b2⟩ := rowL_get hb1
  have al := (List.getElem?_eq_some_iff.1 a1).1
  have bl := (List.getElem?_eq_some_iff.1 b1).1
  rw [← Nat.add_assoc] at b1 b2 bl
  obtain ⟨u1, s1⟩ := stand_dn hc al
  obtain ⟨u2, s2⟩ := stand_dn hc bl
  rw [below_in k6 (by omega) (by omega) a2] at s1
  rw [below_in k6 (by omega) (by omega) b2] at s2
  have g := link_rises hc (i := h.up.length + (nth h.dnF r + k)) (by omega) (by rw [Nat.add_assoc h.up.length]; omega) (by rw [Nat.add_assoc h.up.length, u1, u2])
  rw [Nat.add_assoc h.up.length] at g
  have ea : (lkO h (h.up.length + (nth h.dnF r + k))).lk = la := by
    have q := (link_ok hc (i := h.up.length + (nth h.dnF r + k)) (by omega)).lk
    unfold linkAt at q
    rw [List.getD_eq_getElem?_getD, List.getElem?_append_right (by omega), Nat.add_sub_cancel_left, a1] at q
    exact q.symm
  have eb : (lkO h (h.up.length + (nth h.dnF r + k + 1))).lk = lb := by
    have q := (link_ok hc (i := h.up.length + (nth h.dnF r + k + 1)) (by omega)).lk
    unfold linkAt at q
    rw [List.getD_eq_getElem?_getD, List.getElem?_append_right (by omega), Nat.add_sub_cancel_left, b1] at q
    exact q.symm
  rw [ea, eb] at g
  omega
/-- what a search answers, as back reads it. -/
theorem sn_own {w : World} {B : Nat} {mo : Option Addr} {mc : Nat} {X : List (Nat × Int × Bool)} (h : w.ownsRow B 178 3 (.slice mo X.length mc) X.length (snv X)) : HasSn w mo X := fun j x hj => by
  have hlt := (List.getElem?_eq_some_iff.1 hj).1
  obtain ⟨s0, s1, s2⟩ := snv_get _ j _ hj
  rcases h.2 with ⟨e, h0⟩ | ⟨g, cap, cur, e, _, hh, _⟩
  · omega
  · cases e
    refine ⟨g, 0, rfl, some_lt hh, ?_, ?_, ?_⟩
    · rw [Nat.zero_add]; exact (h.cellAt (j * 3) (by omega)).trans s0
    · rw [Nat.zero_add]; exact (h.cellAt (j * 3 + 1) (by omega)).trans s1
    · rw [Nat.zero_add]; exact (h.cellAt (j * 3 + 2) (by omega)).trans s2
theorem climbed_low (n s : Nat) (a b : Nat → List Lk) : (climbed n s a b).length ≤ n ∧ ∀ x ∈ climbed n s a b, x.1 < n := by
  have g1 := run_out a n 0 (Cb.start n s) []
  have g2 := run_len a n 0 (Cb.start n s) []
  unfold climbed
  generalize run a n 0 (Cb.start n s) [] = R at *
  obtain ⟨vs, out⟩ := R
  dsimp only at g1 g2 ⊢
  refine ⟨by rw [List.length_map]; simpa using g2, fun x hx => ?_⟩
  obtain ⟨y, hy, rfl⟩ := List.mem_map.1 hx
  rcases g1 y hy with g | g
  · cases g
  · show y.1 < n
    omega
end Go.Proofs.YtodilocmfdeehaaGreatDoor.Hi

namespace Go.Proofs.YtodilocmfdeehaaGreatDoor.Hi
open Go.RowKit Go.Extern Cb

attribute [local go_sem] Oper.semAt_some

/-- the links of a least way up to a rank and down again. -/
def ovL (h : Hr) (a t b : Nat) : List Nat := (bkAll h.upF h.up 0 t (bkw (upL h a))).1.reverse ++ (bkAll h.dnF h.dn h.up.length t (bkw (dnL h b))).1
theorem build_s2 (a b : Option Addr) (n m c d : Nat) (wx : World) : (Instr.buildSlice 68 2 #[(0, .slice a n c), (1, .slice b m d)]).run Tryz.prog wx = .ok (.slice (some ⟨wx.heap.size, 0, none⟩) 2 2) (wx.alloc (.cells #[.slice a n c, .slice b m d] 28)) := by kernel_rfl

set_option maxRecDepth 100000 in
set_option maxHeartbeats 8000000 in
theorem uover_calls (v : HV) (h : Hr) (a t b : Nat) (w : World) (hH : HasH w v h) (hc : chk h = (0, [])) (ha : a < h.node.length) (hb0 : b < h.node.length) :
    Calls Tryz.prog 42 #[hvl v h, .int .i64 (a : Int), .int .i64 (t : Int), .int .i64 (b : Int)] w fun e w' => ∃ mo mc, e = .returned (.tuple #[.slice mo (ovL h a t b).length mc, .nilIface]) ∧ GrI w w' (.slice mo (ovL h a t b).length mc) (ovL h a t b) := by
  obtain ⟨z, hz⟩ : ∃ z, w.heap.size = z := ⟨_, rfl⟩
  obtain ⟨W0, hW0⟩ : ∃ W0, w.alloc (.cells #[.slice v.no h.node.length v.nc, .slice v.uo h.upF.length v.uc, .slice v.ul h.up.length v.ulc, .slice v.wo h.dnF.length v.wc, .slice v.dl h.dn.length v.dlc] 25) = W0 := ⟨_, rfl⟩
  have HW0 : Hid (w.alloc (.cells #[.slice v.no h.node.length v.nc, .slice v.uo h.upF.length v.uc, .slice v.ul h.up.length v.ulc, .slice v.wo h.dnF.length v.wc, .slice v.dl h.dn.length v.dlc] 25) = W0) := hW0
  have hB0 : Below w.heap.size w W0 := by rw [← hW0]; exact (Below.refl _ _).alloc (Nat.le_refl _) _
  have hbx : W0.heap[z]? = some (.cells #[.slice v.no h.node.length v.nc, .slice v.uo h.upF.length v.uc, .slice v.ul h.up.length v.ulc, .slice v.wo h.dnF.length v.wc, .slice v.dl h.dn.length v.dlc] 25) := by rw [← hW0, ← hz]; exact heap_newW _ _
  have HX : Hid (∀ wx, Below W0.heap.size W0 wx → (wx.cell? ⟨z, 0, none⟩ = some (.slice v.no h.node.length v.nc) ∧ wx.cell? ⟨z, 1, none⟩ = some (.slice v.uo h.upF.length v.uc) ∧ wx.cell? ⟨z, 2, none⟩ = some (.slice v.ul h.up.length v.ulc) ∧ wx.cell? ⟨z, 3, none⟩ = some (.slice v.wo h.dnF.length v.wc) ∧ wx.cell? ⟨z, 4, none⟩ = some (.slice v.dl h.dn.length v.dlc)) ∧ z < wx.heap.size ∧ Below w.heap.size w wx ∧ HasH wx v h) := fun wx hb => by
    have q := (hb.block _ (some_lt hbx)).trans hbx
    have q2 := hB0.trans (hb.mono hB0.size)
    exact ⟨five_cells q, some_lt q, q2, hH.keep q2⟩
  have HUP : Hid (Calls Tryz.prog 72 #[(.agg #[.slice v.no h.node.length v.nc, .slice v.uo h.upF.length v.uc, .slice v.ul h.up.length v.ulc, .slice v.wo h.dnF.length v.wc, .slice v.dl h.dn.length v.dlc]), .int .i64 (a : Int)] W0 fun e w' => ∃ (mo : Option Addr) (mc : Nat) (X : List (Nat × Int × Bool)), X = upL h a ∧ e = .returned (.tuple #[.slice mo X.length mc, .nilIface]) ∧ w'.ownsRow W0.heap.size 178 3 (.slice mo X.length mc) X.length (snv X) ∧ Below W0.heap.size W0 w') := up_ok v h a W0 (hH.keep hB0) hc ha
  have HDN : Hid (∀ wx, Below W0.heap.size W0 wx → Calls Tryz.prog 73 #[(.agg #[.slice v.no h.node.length v.nc, .slice v.uo h.upF.length v.uc, .slice v.ul h.up.length v.ulc, .slice v.wo h.dnF.length v.wc, .slice v.dl h.dn.length v.dlc]), .int .i64 (b : Int)] wx fun e w' => ∃ (mo : Option Addr) (mc : Nat) (X : List (Nat × Int × Bool)), X = dnL h b ∧ e = .returned (.tuple #[.slice mo X.length mc, .nilIface]) ∧ w'.ownsRow wx.heap.size 178 3 (.slice mo X.length mc) X.length (snv X) ∧ Below wx.heap.size wx w') := fun wx hx => down_ok v h b wx (HX.out wx hx).2.2.2 hc hb0
  have HC : Hid (chk h = (0, []) ∧ h.node.length ≤ 65536 ∧ 0 < h.node.length ∧ h.up.length ≤ 1048576) := ⟨hc, (chk_ok hc).1, by omega, by have := (chk_ok hc).2.1; omega⟩
  obtain ⟨⟨c0, c1, c2, c3, c4⟩, l0, _⟩ := HX.out W0 (Below.refl _ _)
  obtain ⟨M, hM⟩ : ∃ M, ovL h a t b = M := ⟨_, rfl⟩
  have HM : Hid (ovL h a t b = M) := hM
  rw [hM]
  clear hW0 hB0 hbx hH hc ha hb0 hM
  unfold hvl
  go_enter Tryz.func42, Tryz.ntmps42
  go_upto_region 1 with fail
  rw [HW0.out]
  go_wp2_with fail
  refine HUP.out.mono ?_
  rintro e y1 ⟨xo, xc, X, hX, rfl, hox, hbx⟩
  have H1 : Hid (X = upL h a ∧ HasSn y1 xo X ∧ Below W0.heap.size W0 y1) := ⟨hX, sn_own hox, hbx⟩
  clear hX hox hbx c0 c1 c2 c3 c4 l0
  obtain ⟨⟨c0, c1, c2, c3, c4⟩, l0, _⟩ := HX.out y1 H1.out.2.2
  go_wp2_with fail
  refine (HDN.out y1 H1.out.2.2).mono ?_
  rintro e y2 ⟨yo, yc, Y, hY, rfl, hoy, hby⟩
  have H2 : Hid (Y = dnL h b ∧ ∀ wx, Below y2.heap.size y2 wx → HasSn wx xo X ∧ HasSn wx yo Y ∧ Below W0.heap.size W0 wx) := ⟨hY, fun wx hx => ⟨sn_low H1.out.2.1 (btrU hby hx), sn_low (sn_own hoy) hx, btrU H1.out.2.2 (btrU hby hx)⟩⟩
  have HXL : Hid ((X.length ≤ 65536 ∧ ∀ x ∈ X, x.1 < h.node.length) ∧ Y.length ≤ 65536 ∧ ∀ x ∈ Y, x.1 < h.node.length) := by
    have g1 := climbed_low h.node.length a (rowL h.upF h.up) (rowL h.dnF h.dn)
    have g2 := climbed_low h.node.length b (rowL h.dnF h.dn) (rowL h.upF h.up)
    have e1 : X = climbed h.node.length a (rowL h.upF h.up) (rowL h.dnF h.dn) := H1.out.1
    have e2 : Y = climbed h.node.length b (rowL h.dnF h.dn) (rowL h.upF h.up) := hY
    rw [← e1] at g1
    rw [← e2] at g2
    have g3 := HC.out.2.1
    exact ⟨⟨by omega, g1.2⟩, by omega, g2.2⟩
  clear hY hoy hby c0 c1 c2 c3 c4 l0
  obtain ⟨A, hA⟩ : ∃ A, (bkAll h.upF h.up 0 t (bkw X)).1 = A := ⟨_, rfl⟩
  obtain ⟨D, hD⟩ : ∃ D, (bkAll h.dnF h.dn h.up.length t (bkw Y)).1 = D := ⟨_, rfl⟩
  obtain ⟨R, hR⟩ : ∃ R, A.reverse = R := ⟨_, rfl⟩
  have HRR : Hid (A.reverse = R) := hR
  have HOV : Hid (M = R ++ D) := by
    show _ = _
    rw [← HM.out]
    unfold ovL
    rw [← H1.out.1, ← H2.out.1, hA, hD, hR]
  have HAL : Hid (A.length ≤ 65536 ∧ D.length ≤ 65536) := by
    have g1 := bkAll_len h.upF h.up 0 t (bkw X)
    have g2 := bkAll_len h.dnF h.dn h.up.length t (bkw Y)
    rw [hA, bkw_len] at g1
    rw [hD, bkw_len] at g2
    have := HXL.out.1.1
    have := HXL.out.2.1
    exact ⟨by omega, by omega⟩
  have HSS : Hid (∀ wx, Below y2.heap.size y2 wx → (fun w' : World => w'.cell? ⟨z, 0, none⟩ = some (.slice v.no h.node.length v.nc) ∧ w'.cell? ⟨z, 1, none⟩ = some (.slice v.uo h.upF.length v.uc) ∧ w'.cell? ⟨z, 2, none⟩ = some (.slice v.ul h.up.length v.ulc) ∧ w'.cell? ⟨z, 3, none⟩ = some (.slice v.wo h.dnF.length v.wc) ∧ w'.cell? ⟨z, 4, none⟩ = some (.slice v.dl h.dn.length v.dlc) ∧ Hid (Below y2.heap.size y2 w')) wx) := fun wx hx => by
    obtain ⟨⟨c0, c1, c2, c3, c4⟩, _, _⟩ := HX.out wx (H2.out.2 wx hx).2.2
    exact ⟨c0, c1, c2, c3, c4, hx⟩
  have HCU : Hid (∀ wx : World, (fun w' : World => w'.cell? ⟨z, 0, none⟩ = some (.slice v.no h.node.length v.nc) ∧ w'.cell? ⟨z, 1, none⟩ = some (.slice v.uo h.upF.length v.uc) ∧ w'.cell? ⟨z, 2, none⟩ = some (.slice v.ul h.up.length v.ulc) ∧ w'.cell? ⟨z, 3, none⟩ = some (.slice v.wo h.dnF.length v.wc) ∧ w'.cell? ⟨z, 4, none⟩ = some (.slice v.dl h.dn.length v.dlc) ∧ Hid (Below y2.heap.size y2 w')) wx → Calls Tryz.prog 75 #[(.agg #[.slice v.no h.node.length v.nc, .slice v.uo h.upF.length v.uc, .slice v.ul h.up.length v.ulc, .slice v.wo h.dnF.length v.wc, .slice v.dl h.dn.length v.dlc])] wx fun e w' => e = .returned (.agg #[.slice v.uo h.upF.length v.uc, .slice v.ul h.up.length v.ulc, .int .i64 0]) ∧ Grows wx w' ∧ (fun w' : World => w'.cell? ⟨z, 0, none⟩ = some (.slice v.no h.node.length v.nc) ∧ w'.cell? ⟨z, 1, none⟩ = some (.slice v.uo h.upF.length v.uc) ∧ w'.cell? ⟨z, 2, none⟩ = some (.slice v.ul h.up.length v.ulc) ∧ w'.cell? ⟨z, 3, none⟩ = some (.slice v.wo h.dnF.length v.wc) ∧ w'.cell? ⟨z, 4, none⟩ = some (.slice v.dl h.dn.length v.dlc) ∧ Hid (Below y2.heap.size y2 w')) w') := fun wx hS => (uups_calls v h wx).mono (by rintro e w' ⟨rfl, hb⟩; exact ⟨rfl, hb, HSS.out w' (btrU hS.2.2.2.2.2.out hb)⟩)
  have HCD : Hid (∀ wx : World, (fun w' : World => w'.cell? ⟨z, 0, none⟩ = some (.slice v.no h.node.length v.nc) ∧ w'.cell? ⟨z, 1, none⟩ = some (.slice v.uo h.upF.length v.uc) ∧ w'.cell? ⟨z, 2, none⟩ = some (.slice v.ul h.up.length v.ulc) ∧ w'.cell? ⟨z, 3, none⟩ = some (.slice v.wo h.dnF.length v.wc) ∧ w'.cell? ⟨z, 4, none⟩ = some (.slice v.dl h.dn.length v.dlc) ∧ Hid (Below y2.heap.size y2 w')) wx → Calls Tryz.prog 77 #[(.agg #[.slice v.no h.node.length v.nc, .slice v.uo h.upF.length v.uc, .slice v.ul h.up.length v.ulc, .slice v.wo h.dnF.length v.wc, .slice v.dl h.dn.length v.dlc])] wx fun e w' => e = .returned (.agg #[.slice v.wo h.dnF.length v.wc, .slice v.dl h.dn.length v.dlc, .int .i64 (h.up.length : Int)]) ∧ Grows wx w' ∧ (fun w' : World => w'.cell? ⟨z, 0, none⟩ = some (.slice v.no h.node.length v.nc) ∧ w'.cell? ⟨z, 1, none⟩ = some (.slice v.uo h.upF.length v.uc) ∧ w'.cell? ⟨z, 2, none⟩ = some (.slice v.ul h.up.length v.ulc) ∧ w'.cell? ⟨z, 3, none⟩ = some (.slice v.wo h.dnF.length v.wc) ∧ w'.cell? ⟨z, 4, none⟩ = some (.slice v.dl h.dn.length v.dlc) ∧ Hid (Below y2.heap.size y2 w')) w') := fun wx hS => (udowns_calls v h wx).mono (by rintro e w' ⟨rfl, hb⟩; exact ⟨rfl, hb, HSS.out w' (btrU hS.2.2.2.2.2.out hb)⟩)
  have HBU : Hid (∀ wx, Below y2.heap.size y2 wx → Calls Tryz.prog 76 #[(.agg #[.slice v.uo h.upF.length v.uc, .slice v.ul h.up.length v.ulc, .int .i64 0]), .slice xo X.length xc, .int .i64 (t : Int)] wx fun e w' => ∃ mo mc, e = .returned (.slice mo A.length mc) ∧ GrI wx w' (.slice mo A.length mc) A) := fun wx hx => by
    have g := uback_calls v.uo v.ul xo v.uc v.ulc xc h.node.length h.upF h.up X 0 t wx HXL.out.1.1 HC.out.2.1 HC.out.2.2.1 (Nat.zero_le _) (rows_up (HX.out wx (H2.out.2 wx hx).2.2).2.2.2 HC.out.1) (fun r hr => up_rises HC.out.1 hr) (H2.out.2 wx hx).1 HXL.out.1.2
    rw [hA] at g
    exact g
  have HBD : Hid (∀ wx, Below y2.heap.size y2 wx → Calls Tryz.prog 76 #[(.agg #[.slice v.wo h.dnF.length v.wc, .slice v.dl h.dn.length v.dlc, .int .i64 (h.up.length : Int)]), .slice yo Y.length yc, .int .i64 (t : Int)] wx fun e w' => ∃ mo mc, e = .returned (.slice mo D.length mc) ∧ GrI wx w' (.slice mo D.length mc) D) := fun wx hx => by
    have g := uback_calls v.wo v.dl yo v.wc v.dlc yc h.node.length h.dnF h.dn Y h.up.length t wx HXL.out.2.1 HC.out.2.1 HC.out.2.2.1 HC.out.2.2.2 (rows_dn (HX.out wx (H2.out.2 wx hx).2.2).2.2.2 HC.out.1) (fun r hr => dn_rises HC.out.1 hr) (H2.out.2 wx hx).2.1 HXL.out.2.2
    rw [hD] at g
    exact g
  clear hA hD hR
  go_upto_region 7 with fail
  refine wp_region_M (S := (fun w' : World => w'.cell? ⟨z, 0, none⟩ = some (.slice v.no h.node.length v.nc) ∧ w'.cell? ⟨z, 1, none⟩ = some (.slice v.uo h.upF.length v.uc) ∧ w'.cell? ⟨z, 2, none⟩ = some (.slice v.ul h.up.length v.ulc) ∧ w'.cell? ⟨z, 3, none⟩ = some (.slice v.wo h.dnF.length v.wc) ∧ w'.cell? ⟨z, 4, none⟩ = some (.slice v.dl h.dn.length v.dlc) ∧ Hid (Below y2.heap.size y2 w'))) (by kernel_rfl) (HSS.out _ (Below.refl _ _).drew) ?_
  refine wpAnyM_take (i := 0) (oi := ⟨some 31, .load 25 (.tmp 4), 25, "way.go:37", #[], none⟩) (v := ?va0) rfl (by kernel_rfl) (by kernel_rfl) (by kernel_rfl) (fun _ _ _ h => h) (YieldsM.of_if (Or.inl ⟨by rfl, ?ha0⟩)) ?ra0
  case ha0 => ((intro wz hSw; (try dsimp only at hSw); go_simp); try (with_reducible rfl))
  try simp only [Act.put, List.setIfInBounds_toArray, List.set_cons_zero, List.set_cons_succ]
  refine wpAnyM_take (i := 1) (oi := ⟨some 32, .call { callee := .value (.func 75), args := #[.tmp 31], argTypes := #[25] }, 136, "way.go:37", #[⟨0, .data⟩], none⟩) (v := (.agg #[.slice v.uo h.upF.length v.uc, .slice v.ul h.up.length v.ulc, .int .i64 0])) rfl (by kernel_rfl) (by kernel_rfl) (by kernel_rfl) (fun _ _ _ h => h) (YieldsM.of_call (f := 75) (by rfl) (fun _ _ => by kernel_rfl) (HCU.out)) ?_
  try simp only [Act.put, List.setIfInBounds_toArray, List.set_cons_zero, List.set_cons_succ]
  refine wpAnyM_take (i := 2) (oi := ⟨some 33, .move (.tmp 10), 131, "way.go:37", #[], none⟩) (v := ?va2) rfl (by kernel_rfl) (by kernel_rfl) (by kernel_rfl) (fun _ _ _ h => h) (YieldsM.of_if (Or.inl ⟨by rfl, ?ha2⟩)) ?ra2
  case ha2 => ((intro wz hSw; (try dsimp only at hSw); go_simp); try (with_reducible rfl))
  try simp only [Act.put, List.setIfInBounds_toArray, List.set_cons_zero, List.set_cons_succ]
  refine wpAnyM_take (i := 3) (oi := ⟨some 34, .move (.tmp 2), 3, "way.go:37", #[], none⟩) (v := ?va3) rfl (by kernel_rfl) (by kernel_rfl) (by kernel_rfl) (fun _ _ _ h => h) (YieldsM.of_if (Or.inl ⟨by rfl, ?ha3⟩)) ?ra3
  case ha3 => ((intro wz hSw; (try dsimp only at hSw); go_simp); try (with_reducible rfl))
  try simp only [Act.put, List.setIfInBounds_toArray, List.set_cons_zero, List.set_cons_succ]
  refine wpAnyM_take (i := 6) (oi := ⟨some 37, .load 25 (.tmp 4), 25, "way.go:37", #[], none⟩) (v := ?va6) rfl (by kernel_rfl) (by kernel_rfl) (by kernel_rfl) (fun _ _ _ h => h) (YieldsM.of_if (Or.inl ⟨by rfl, ?ha6⟩)) ?ra6
  case ha6 => ((intro wz hSw; (try dsimp only at hSw); go_simp); try (with_reducible rfl))
  try simp only [Act.put, List.setIfInBounds_toArray, List.set_cons_zero, List.set_cons_succ]
  refine wpAnyM_take (i := 8) (oi := ⟨some 39, .move (.tmp 12), 131, "way.go:37", #[], none⟩) (v := ?va8) rfl (by kernel_rfl) (by kernel_rfl) (by kernel_rfl) (fun _ _ _ h => h) (YieldsM.of_if (Or.inl ⟨by rfl, ?ha8⟩)) ?ra8
  case ha8 => ((intro wz hSw; (try dsimp only at hSw); go_simp); try (with_reducible rfl))
  try simp only [Act.put, List.setIfInBounds_toArray, List.set_cons_zero, List.set_cons_succ]
  refine wpAnyM_take (i := 9) (oi := ⟨some 40, .move (.tmp 2), 3, "way.go:37", #[], none⟩) (v := ?va9) rfl (by kernel_rfl) (by kernel_rfl) (by kernel_rfl) (fun _ _ _ h => h) (YieldsM.of_if (Or.inl ⟨by rfl, ?ha9⟩)) ?ra9
  case ha9 => ((intro wz hSw; (try dsimp only at hSw); go_simp); try (with_reducible rfl))
  try simp only [Act.put, List.setIfInBounds_toArray, List.set_cons_zero, List.set_cons_succ]
  refine readyM (i := 4) (o := ⟨some 35, .call { callee := .value (.func 76), args := #[.tmp 32, .tmp 33, .tmp 34], argTypes := #[136, 131, 3] }, 28, "way.go:37", #[⟨1, .data⟩, ⟨2, .data⟩, ⟨3, .data⟩, ⟨1, .chain⟩], none⟩) rfl (by kernel_rfl) ?_
  intro u1 hg1 hS1 K hK
  have B1 : Hid (Below y2.heap.size y2 u1) := hS1.2.2.2.2.2.out
  clear hS1 hg1
  go_simp
  refine (HBU.out u1 B1.out).mono ?_
  rintro e u2 ⟨ao, ac, rfl, hg2⟩
  have G2 : Hid (GrI u1 u2 (.slice ao A.length ac) A) := hg2
  clear hg2
  go_wp2_with fail
  refine hK.out _ _ (HSS.out _ (btrU B1.out G2.out.bel)) ?_
  clear hK K
  try simp only [Act.put, List.setIfInBounds_toArray, List.set_cons_zero, List.set_cons_succ]
  refine readyM (i := 5) (o := ⟨some 36, .call { callee := .value (.func 59), args := #[.tmp 35], argTypes := #[28] }, 28, "way.go:37", #[⟨4, .data⟩, ⟨4, .chain⟩], none⟩) rfl (by kernel_rfl) ?_
  intro u3 hg3 hS3 K hK
  have B3 : Hid (Below y2.heap.size y2 u3) := hS3.2.2.2.2.2.out
  have HBK : Hid (Calls Tryz.prog 59 #[.slice ao A.length ac] u3 fun e w' => ∃ so sc, e = .returned (.slice so R.length sc) ∧ GrI u3 w' (.slice so R.length sc) R) := by
    have g := back_calls ao ac (zs A) u3 (by rw [zs_len]; exact (ints_ownU G2.out.own).keep hg3) (nilI_own G2.out.own).2 (by rw [zs_len]; have := HAL.out.1; omega)
    rw [zs_rev, HRR.out, zs_len] at g
    refine g.mono ?_
    rintro e w' ⟨so, sc, rfl, ho, hb2⟩
    rw [zs_len] at ho
    rw [zs_len]
    exact ⟨so, sc, rfl, ho, hb2⟩
  clear hS3 hg3
  go_simp
  refine HBK.out.mono ?_
  rintro e u4 ⟨so, sc, rfl, hg4⟩
  have G4 : Hid (GrI u3 u4 (.slice so R.length sc) R) := hg4
  clear hg4
  go_wp2_with fail
  refine hK.out _ _ (HSS.out _ (btrU B3.out G4.out.bel)) ?_
  clear hK K HBK
  try simp only [Act.put, List.setIfInBounds_toArray, List.set_cons_zero, List.set_cons_succ]
  refine wpAnyM_take (i := 7) (oi := ⟨some 38, .call { callee := .value (.func 77), args := #[.tmp 37], argTypes := #[25] }, 136, "way.go:37", #[⟨6, .data⟩, ⟨5, .chain⟩], none⟩) (v := (.agg #[.slice v.wo h.dnF.length v.wc, .slice v.dl h.dn.length v.dlc, .int .i64 (h.up.length : Int)])) rfl (by kernel_rfl) (by kernel_rfl) (by kernel_rfl) (fun _ _ _ h => h) (YieldsM.of_call (f := 77) (by rfl) (fun _ _ => by kernel_rfl) (HCD.out)) ?_
  try simp only [Act.put, List.setIfInBounds_toArray, List.set_cons_zero, List.set_cons_succ]
  refine readyM (i := 10) (o := ⟨some 41, .call { callee := .value (.func 76), args := #[.tmp 38, .tmp 39, .tmp 40], argTypes := #[136, 131, 3] }, 28, "way.go:37", #[⟨7, .data⟩, ⟨8, .data⟩, ⟨9, .data⟩, ⟨7, .chain⟩], none⟩) rfl (by kernel_rfl) ?_
  intro u5 hg5 hS5 K hK
  have B5 : Hid (Below y2.heap.size y2 u5 ∧ GrI u3 u5 (.slice so R.length sc) R) := ⟨hS5.2.2.2.2.2.out, G4.out.up hg5⟩
  clear hS5 hg5
  go_simp
  refine (HBD.out u5 B5.out.1).mono ?_
  rintro e u6 ⟨eo, ec, rfl, hg6⟩
  have G6 : Hid (GrI u5 u6 (.slice eo D.length ec) D ∧ GrI u3 u6 (.slice so R.length sc) R ∧ Below y2.heap.size y2 u6) := ⟨hg6, B5.out.2.up hg6.bel, btrU B5.out.1 hg6.bel⟩
  clear hg6
  go_wp2_with fail
  refine hK.out _ _ (HSS.out _ G6.out.2.2) ?_
  clear hK K
  try simp only [Act.put, List.setIfInBounds_toArray, List.set_cons_zero, List.set_cons_succ]
  refine readyM (i := 11) (o := ⟨some 42, .buildSlice 68 2 #[(0, .tmp 36), (1, .tmp 41)], 68, "way.go:37", #[⟨5, .data⟩, ⟨10, .data⟩], none⟩) rfl (by kernel_rfl) ?_
  intro u7 hg7 hS7 K hK
  have hbs := build_s2 so eo R.length D.length sc ec u7
  have G8 : Hid (∀ wx, Below (u7.alloc (.cells #[.slice so R.length sc, .slice eo D.length ec] 28)).heap.size (u7.alloc (.cells #[.slice so R.length sc, .slice eo D.length ec] 28)) wx → (HasInts wx (.slice so R.length sc) (zs R) ∧ HasInts wx (.slice eo D.length ec) (zs D) ∧ Below y2.heap.size y2 wx) ∧ wx.heap[u7.heap.size]? = some (.cells #[.slice so R.length sc, .slice eo D.length ec] 28)) := fun wx hx => by
    have g1 := heap_newW u7 (.cells #[.slice so R.length sc, .slice eo D.length ec] 28)
    have g2 : Below u7.heap.size u7 (u7.alloc (.cells #[.slice so R.length sc, .slice eo D.length ec] 28)) := (Below.refl _ _).alloc (Nat.le_refl _) _
    have g3 := btrU hg7 (btrU g2 hx)
    exact ⟨⟨(ints_ownU G6.out.2.1.own).keep g3, (ints_ownU G6.out.1.own).keep g3, btrU G6.out.2.2 g3⟩, (hx.block _ (some_lt g1)).trans g1⟩
  clear hS7 hg7
  go_simp
  refine hK.out _ _ (HSS.out _ (G8.out _ (Below.refl _ _)).1.2.2) ?_
  clear hK K hbs
  obtain ⟨g, hgg⟩ : ∃ g, u7.heap.size = g := ⟨_, rfl⟩
  rw [hgg] at G8 ⊢
  generalize u7.alloc (.cells #[.slice so R.length sc, .slice eo D.length ec] 28) = U8 at G8 ⊢
  clear hgg
  try simp only [Act.put, List.setIfInBounds_toArray, List.set_cons_zero, List.set_cons_succ]
  refine readyM (i := 12) (o := ⟨some 43, .call { callee := .value (.func 74), args := #[.tmp 42], argTypes := #[68] }, 28, "way.go:37", #[⟨11, .data⟩, ⟨10, .chain⟩], none⟩) rfl (by kernel_rfl) ?_
  intro u9 hg9 hS9 K hK
  have HCC : Hid (Calls Tryz.prog 74 #[.slice (some ⟨g, 0, none⟩) 2 2] u9 (LA u9 (zs R ++ zs D)) ∧ Below w.heap.size w u9 ∧ Below y2.heap.size y2 u9) := by
    obtain ⟨⟨g1, g2, g3⟩, g4⟩ := G8.out u9 hg9
    have e1 : R.length = (zs R).length := (zs_len _).symm
    have e2 : D.length = (zs D).length := (zs_len _).symm
    rw [e1, e2] at g4
    rw [e1] at g1
    rw [e2] at g2
    have n1 := nilI_own G6.out.2.1.own
    have n2 := nilI_own G6.out.1.own
    exact ⟨concatO_calls g so eo sc ec (zs R) (zs D) u9 (by simp [World.cell?, g4]) (by simp [World.cell?, g4]) g1 g2 n1 n2 (by rw [zs_len, zs_len, ← HRR.out, List.length_reverse]; have := HAL.out; omega), (HX.out u9 (H2.out.2 u9 g3).2.2).2.2.1, g3⟩
  clear hS9 hg9
  go_simp
  refine HCC.out.1.mono ?_
  rintro e u10 ⟨mo, mc, rfl, ho, hb⟩
  rw [← zs_append, zs_len] at ho
  rw [← zs_append, zs_len, ← HOV.out]
  rw [← HOV.out] at ho
  have G10 : Hid (GrI w u10 (.slice mo M.length mc) M ∧ Below y2.heap.size y2 u10) := ⟨⟨own_lowU ho HCC.out.2.1.size, btrU HCC.out.2.1 hb⟩, btrU HCC.out.2.2 hb⟩
  clear ho hb
  go_wp2_with fail
  refine hK.out _ _ (HSS.out _ G10.out.2) ?_
  clear hK K
  try simp only [Act.put, List.setIfInBounds_toArray, List.set_cons_zero, List.set_cons_succ]
  refine wpAnyM_take (i := 13) (oi := ⟨some 8, .assign (.tmp 43), 28, "way.go:37", #[⟨12, .data⟩, ⟨12, .chain⟩, ⟨0, .phase⟩, ⟨1, .phase⟩, ⟨2, .phase⟩, ⟨3, .phase⟩, ⟨4, .phase⟩, ⟨5, .phase⟩, ⟨6, .phase⟩, ⟨7, .phase⟩, ⟨8, .phase⟩, ⟨9, .phase⟩, ⟨10, .phase⟩, ⟨11, .phase⟩, ⟨12, .phase⟩], none⟩) (v := ?vc13) rfl (by kernel_rfl) (by kernel_rfl) (by kernel_rfl) (fun _ _ _ h => h) (YieldsM.of_if (Or.inl ⟨by rfl, ?hc13⟩)) ?rc13
  case hc13 => ((intro wz hSw; (try dsimp only at hSw); go_simp); try (with_reducible rfl))
  try simp only [Act.put, List.setIfInBounds_toArray, List.set_cons_zero, List.set_cons_succ]
  refine wpAnyM_take (i := 14) (oi := ⟨some 9, .assign (.const .nilIface), 30, "way.go:37", #[⟨13, .chain⟩, ⟨0, .phase⟩, ⟨1, .phase⟩, ⟨2, .phase⟩, ⟨3, .phase⟩, ⟨4, .phase⟩, ⟨5, .phase⟩, ⟨6, .phase⟩, ⟨7, .phase⟩, ⟨8, .phase⟩, ⟨9, .phase⟩, ⟨10, .phase⟩, ⟨11, .phase⟩, ⟨12, .phase⟩, ⟨13, .phase⟩], none⟩) (v := ?vc14) rfl (by kernel_rfl) (by kernel_rfl) (by kernel_rfl) (fun _ _ _ h => h) (YieldsM.of_if (Or.inl ⟨by rfl, ?hc14⟩)) ?rc14
  case hc14 => ((intro wz hSw; (try dsimp only at hSw); go_simp); try (with_reducible rfl))
  try simp only [Act.put, List.setIfInBounds_toArray, List.set_cons_zero, List.set_cons_succ]
  refine wpAnyM_done (by kernel_rfl) ?_ _
  intro u11 hg11 hS11
  have G11 : Hid (GrI w u11 (.slice mo M.length mc) M) := G10.out.1.up hg11
  clear hS11 hg11 G10
  go_wp2
  go_ret2
  exact ⟨mo, mc, rfl, G11.out⟩
end Go.Proofs.YtodilocmfdeehaaGreatDoor.Hi

namespace Go.Proofs.YtodilocmfdeehaaGreatDoor.Hi
open Go.RowKit Go.Extern Cb Qy

attribute [local go_sem] Oper.semAt_some

theorem wf_zs {L : List Nat} {N : Nat} (hN : N ≤ 65536) (h : ∀ r ∈ L, r < N) : ∀ x ∈ zs L, (Lit.int .i64 x).wf = true := by
  intro x hx
  unfold zs at hx
  obtain ⟨r, hr, rfl⟩ := List.mem_map.1 hx
  have := h r hr
  have h1 : IntKind.i64.min = -9223372036854775808 := by decide
  have h2 : IntKind.i64.max = 9223372036854775807 := by decide
  simp only [Lit.wf, h1, h2]
  simp
  omega

set_option maxRecDepth 100000 in
set_option maxHeartbeats 8000000 in
theorem upath_good (v : HV) (h : Hr) (s t r : Nat) (d : Int) (M T SN : List Nat) (w : World) (hH : HasH w v h) (hc : chk h = (0, [])) (hs : s < h.node.length) (ht : t < h.node.length) (hme : meetL h s t = some (r, d))
    (hM : ovL h (rankOf h s) r (rankOf h t) = M) (hMs : ∀ i ∈ M, i < (stds h).length) (hMl : M.length ≤ 1000000) (hT : layL h M = T) (hTl : T.length ≤ 131072) (hTs : ∀ i ∈ T, i < (stds h).length)
    (hS : simpS (zs (alR h (rankOf h s) T)) = zs SN) (hSn : ∀ r ∈ SN, r < h.node.length) (hSl : SN.length ≤ 1000000) :
    Calls Tryz.prog 17 #[hvl v h, .int .i64 (s : Int), .int .i64 (t : Int)] w fun e w' => ∃ mo mc, e = .returned (.tuple #[.slice mo (ndR h SN).length mc, .nilIface]) ∧ GrI w w' (.slice mo (ndR h SN).length mc) (ndR h SN) := by
  obtain ⟨z, hz⟩ : ∃ z, w.heap.size = z := ⟨_, rfl⟩
  obtain ⟨W0, hW0⟩ : ∃ W0, w.alloc (.cells #[.slice v.no h.node.length v.nc, .slice v.uo h.upF.length v.uc, .slice v.ul h.up.length v.ulc, .slice v.wo h.dnF.length v.wc, .slice v.dl h.dn.length v.dlc] 25) = W0 := ⟨_, rfl⟩
  have HW0 : Hid (w.alloc (.cells #[.slice v.no h.node.length v.nc, .slice v.uo h.upF.length v.uc, .slice v.ul h.up.length v.ulc, .slice v.wo h.dnF.length v.wc, .slice v.dl h.dn.length v.dlc] 25) = W0) := hW0
  have hB0 : Below w.heap.size w W0 := by rw [← hW0]; exact (Below.refl _ _).alloc (Nat.le_refl _) _
  have hbx : W0.heap[z]? = some (.cells #[.slice v.no h.node.length v.nc, .slice v.uo h.upF.length v.uc, .slice v.ul h.up.length v.ulc, .slice v.wo h.dnF.length v.wc, .slice v.dl h.dn.length v.dlc] 25) := by rw [← hW0, ← hz]; exact heap_newW _ _
  have HX : Hid (∀ wx, Below W0.heap.size W0 wx → (wx.cell? ⟨z, 0, none⟩ = some (.slice v.no h.node.length v.nc) ∧ wx.cell? ⟨z, 1, none⟩ = some (.slice v.uo h.upF.length v.uc) ∧ wx.cell? ⟨z, 2, none⟩ = some (.slice v.ul h.up.length v.ulc) ∧ wx.cell? ⟨z, 3, none⟩ = some (.slice v.wo h.dnF.length v.wc) ∧ wx.cell? ⟨z, 4, none⟩ = some (.slice v.dl h.dn.length v.dlc)) ∧ z < wx.heap.size ∧ Below w.heap.size w wx ∧ HasH wx v h) := fun wx hb => by
    have q := (hb.block _ (some_lt hbx)).trans hbx
    have q2 := hB0.trans (hb.mono hB0.size)
    exact ⟨five_cells q, some_lt q, q2, hH.keep q2⟩
  have hsm := (chk_ok hc).2.1
  have hnl := (chk_ok hc).1
  have HME : Hid (Calls Tryz.prog 40 #[(.agg #[.slice v.no h.node.length v.nc, .slice v.uo h.upF.length v.uc, .slice v.ul h.up.length v.ulc, .slice v.wo h.dnF.length v.wc, .slice v.dl h.dn.length v.dlc]), .int .i64 (s : Int), .int .i64 (t : Int)] W0 fun e w' => e = .returned (.tuple #[.int .i64 (r : Int), .nilIface]) ∧ Below W0.heap.size W0 w') := (meetR_calls v h (s : Int) (t : Int) W0 (hH.keep hB0) (by omega) (by omega) (by omega)).mono (by
    rintro e w' ⟨r', d', u, hm, rfl, hb⟩
    obtain ⟨rfl, rfl, rfl⟩ := mr_yes hc hs ht hme hm.1
    exact ⟨rfl, hb⟩)
  obtain ⟨a, ha⟩ : ∃ a, rankOf h s = a := ⟨_, rfl⟩
  obtain ⟨b, hb0⟩ : ∃ b, rankOf h t = b := ⟨_, rfl⟩
  have hal : a < h.node.length := by rw [← ha]; exact (rank_node hc hs).1
  have hbl : b < h.node.length := by rw [← hb0]; exact (rank_node hc ht).1
  rw [ha, hb0] at hM
  rw [ha] at hS
  have HRA : Hid (∀ wx, Below W0.heap.size W0 wx → (Calls Tryz.prog 41 #[(.agg #[.slice v.no h.node.length v.nc, .slice v.uo h.upF.length v.uc, .slice v.ul h.up.length v.ulc, .slice v.wo h.dnF.length v.wc, .slice v.dl h.dn.length v.dlc]), .int .i64 (s : Int)] wx fun e w' => e = .returned (.int .i64 (a : Int)) ∧ Below wx.heap.size wx w') ∧ Calls Tryz.prog 41 #[(.agg #[.slice v.no h.node.length v.nc, .slice v.uo h.upF.length v.uc, .slice v.ul h.up.length v.ulc, .slice v.wo h.dnF.length v.wc, .slice v.dl h.dn.length v.dlc]), .int .i64 (t : Int)] wx fun e w' => e = .returned (.int .i64 (b : Int)) ∧ Below wx.heap.size wx w') := fun wx hx => by
    have g1 := urank_calls v h s wx (HX.out wx hx).2.2.2 hc hs
    have g2 := urank_calls v h t wx (HX.out wx hx).2.2.2 hc ht
    rw [ha] at g1
    rw [hb0] at g2
    exact ⟨g1, g2⟩
  have HOV : Hid (∀ wx, Below W0.heap.size W0 wx → Calls Tryz.prog 42 #[(.agg #[.slice v.no h.node.length v.nc, .slice v.uo h.upF.length v.uc, .slice v.ul h.up.length v.ulc, .slice v.wo h.dnF.length v.wc, .slice v.dl h.dn.length v.dlc]), .int .i64 (a : Int), .int .i64 (r : Int), .int .i64 (b : Int)] wx fun e w' => ∃ mo mc, e = .returned (.tuple #[.slice mo M.length mc, .nilIface]) ∧ GrI wx w' (.slice mo M.length mc) M) := fun wx hx => by
    have g := uover_calls v h a r b wx (HX.out wx hx).2.2.2 hc hal hbl
    rw [hM] at g
    exact g
  have HC : Hid (chk h = (0, []) ∧ (∀ i ∈ M, i < (stds h).length) ∧ M.length ≤ 1000000 ∧ layL h M = T ∧ T.length ≤ 131072 ∧ (∀ i ∈ T, i < (stds h).length) ∧ simpS (zs (alR h a T)) = zs SN ∧ (∀ r ∈ SN, r < h.node.length) ∧ SN.length ≤ 1000000 ∧ a < h.node.length ∧ h.node.length ≤ 65536) := ⟨hc, hMs, hMl, hT, hTl, hTs, hS, hSn, hSl, hal, hnl⟩
  obtain ⟨⟨c0, c1, c2, c3, c4⟩, l0, _⟩ := HX.out W0 (Below.refl _ _)
  clear hW0 hB0 hbx hH hc hs ht hme hM hMs hMl hT hTl hTs hS hSn hSl hsm hnl ha hb0 hal hbl
  unfold hvl
  go_enter Tryz.func17, Tryz.ntmps17
  go_upto_region 1 with fail
  rw [HW0.out]
  go_wp2_with fail
  refine HME.out.mono ?_
  rintro e y1 ⟨rfl, hb⟩
  have H1 : Hid (Below W0.heap.size W0 y1) := hb
  clear hb c0 c1 c2 c3 c4 l0
  have HSS : Hid (∀ wx, Below y1.heap.size y1 wx → (fun w' : World => w'.cell? ⟨z, 0, none⟩ = some (.slice v.no h.node.length v.nc) ∧ w'.cell? ⟨z, 1, none⟩ = some (.slice v.uo h.upF.length v.uc) ∧ w'.cell? ⟨z, 2, none⟩ = some (.slice v.ul h.up.length v.ulc) ∧ w'.cell? ⟨z, 3, none⟩ = some (.slice v.wo h.dnF.length v.wc) ∧ w'.cell? ⟨z, 4, none⟩ = some (.slice v.dl h.dn.length v.dlc) ∧ Hid (Below y1.heap.size y1 w')) wx) := fun wx hx => by
    obtain ⟨⟨c0, c1, c2, c3, c4⟩, _, _⟩ := HX.out wx (btrU H1.out hx)
    exact ⟨c0, c1, c2, c3, c4, hx⟩
  have HCA : Hid (∀ wx : World, (fun w' : World => w'.cell? ⟨z, 0, none⟩ = some (.slice v.no h.node.length v.nc) ∧ w'.cell? ⟨z, 1, none⟩ = some (.slice v.uo h.upF.length v.uc) ∧ w'.cell? ⟨z, 2, none⟩ = some (.slice v.ul h.up.length v.ulc) ∧ w'.cell? ⟨z, 3, none⟩ = some (.slice v.wo h.dnF.length v.wc) ∧ w'.cell? ⟨z, 4, none⟩ = some (.slice v.dl h.dn.length v.dlc) ∧ Hid (Below y1.heap.size y1 w')) wx → Calls Tryz.prog 41 #[(.agg #[.slice v.no h.node.length v.nc, .slice v.uo h.upF.length v.uc, .slice v.ul h.up.length v.ulc, .slice v.wo h.dnF.length v.wc, .slice v.dl h.dn.length v.dlc]), .int .i64 (s : Int)] wx fun e w' => e = .returned (.int .i64 (a : Int)) ∧ Grows wx w' ∧ (fun w' : World => w'.cell? ⟨z, 0, none⟩ = some (.slice v.no h.node.length v.nc) ∧ w'.cell? ⟨z, 1, none⟩ = some (.slice v.uo h.upF.length v.uc) ∧ w'.cell? ⟨z, 2, none⟩ = some (.slice v.ul h.up.length v.ulc) ∧ w'.cell? ⟨z, 3, none⟩ = some (.slice v.wo h.dnF.length v.wc) ∧ w'.cell? ⟨z, 4, none⟩ = some (.slice v.dl h.dn.length v.dlc) ∧ Hid (Below y1.heap.size y1 w')) w') := fun wx hS => (HRA.out wx (btrU H1.out hS.2.2.2.2.2.out)).1.mono (by rintro e w' ⟨rfl, hb⟩; exact ⟨rfl, hb, HSS.out w' (btrU hS.2.2.2.2.2.out hb)⟩)
  have HCB : Hid (∀ wx : World, (fun w' : World => w'.cell? ⟨z, 0, none⟩ = some (.slice v.no h.node.length v.nc) ∧ w'.cell? ⟨z, 1, none⟩ = some (.slice v.uo h.upF.length v.uc) ∧ w'.cell? ⟨z, 2, none⟩ = some (.slice v.ul h.up.length v.ulc) ∧ w'.cell? ⟨z, 3, none⟩ = some (.slice v.wo h.dnF.length v.wc) ∧ w'.cell? ⟨z, 4, none⟩ = some (.slice v.dl h.dn.length v.dlc) ∧ Hid (Below y1.heap.size y1 w')) wx → Calls Tryz.prog 41 #[(.agg #[.slice v.no h.node.length v.nc, .slice v.uo h.upF.length v.uc, .slice v.ul h.up.length v.ulc, .slice v.wo h.dnF.length v.wc, .slice v.dl h.dn.length v.dlc]), .int .i64 (t : Int)] wx fun e w' => e = .returned (.int .i64 (b : Int)) ∧ Grows wx w' ∧ (fun w' : World => w'.cell? ⟨z, 0, none⟩ = some (.slice v.no h.node.length v.nc) ∧ w'.cell? ⟨z, 1, none⟩ = some (.slice v.uo h.upF.length v.uc) ∧ w'.cell? ⟨z, 2, none⟩ = some (.slice v.ul h.up.length v.ulc) ∧ w'.cell? ⟨z, 3, none⟩ = some (.slice v.wo h.dnF.length v.wc) ∧ w'.cell? ⟨z, 4, none⟩ = some (.slice v.dl h.dn.length v.dlc) ∧ Hid (Below y1.heap.size y1 w')) w') := fun wx hS => (HRA.out wx (btrU H1.out hS.2.2.2.2.2.out)).2.mono (by rintro e w' ⟨rfl, hb⟩; exact ⟨rfl, hb, HSS.out w' (btrU hS.2.2.2.2.2.out hb)⟩)
  go_upto_region 4 with fail
  refine wp_region_M (S := (fun w' : World => w'.cell? ⟨z, 0, none⟩ = some (.slice v.no h.node.length v.nc) ∧ w'.cell? ⟨z, 1, none⟩ = some (.slice v.uo h.upF.length v.uc) ∧ w'.cell? ⟨z, 2, none⟩ = some (.slice v.ul h.up.length v.ulc) ∧ w'.cell? ⟨z, 3, none⟩ = some (.slice v.wo h.dnF.length v.wc) ∧ w'.cell? ⟨z, 4, none⟩ = some (.slice v.dl h.dn.length v.dlc) ∧ Hid (Below y1.heap.size y1 w'))) (by kernel_rfl) (HSS.out _ (Below.refl _ _).drew) ?_
  refine wpAnyM_take (i := 0) (oi := ⟨some 24, .load 25 (.tmp 3), 25, "unpack.go:41", #[], none⟩) (v := ?vr0) rfl (by kernel_rfl) (by kernel_rfl) (by kernel_rfl) (fun _ _ _ h => h) (YieldsM.of_if (Or.inl ⟨by rfl, ?hr0⟩)) ?rr0
  case hr0 => ((intro wz hSw; (try dsimp only at hSw); go_simp); try (with_reducible rfl))
  try simp only [Act.put, List.setIfInBounds_toArray, List.set_cons_zero, List.set_cons_succ]
  refine wpAnyM_take (i := 1) (oi := ⟨some 25, .move (.tmp 1), 3, "unpack.go:41", #[], none⟩) (v := ?vr1) rfl (by kernel_rfl) (by kernel_rfl) (by kernel_rfl) (fun _ _ _ h => h) (YieldsM.of_if (Or.inl ⟨by rfl, ?hr1⟩)) ?rr1
  case hr1 => ((intro wz hSw; (try dsimp only at hSw); go_simp); try (with_reducible rfl))
  try simp only [Act.put, List.setIfInBounds_toArray, List.set_cons_zero, List.set_cons_succ]
  refine wpAnyM_take (i := 2) (oi := ⟨some 26, .call { callee := .value (.func 41), args := #[.tmp 24, .tmp 25], argTypes := #[25, 3] }, 3, "unpack.go:41", #[⟨0, .data⟩, ⟨1, .data⟩], none⟩) (v := (.int .i64 (a : Int))) rfl (by kernel_rfl) (by kernel_rfl) (by kernel_rfl) (fun _ _ _ h => h) (YieldsM.of_call (f := 41) (by rfl) (fun _ _ => by kernel_rfl) (HCA.out)) ?_
  try simp only [Act.put, List.setIfInBounds_toArray, List.set_cons_zero, List.set_cons_succ]
  refine wpAnyM_take (i := 3) (oi := ⟨some 27, .load 25 (.tmp 3), 25, "unpack.go:41", #[], none⟩) (v := ?vr3) rfl (by kernel_rfl) (by kernel_rfl) (by kernel_rfl) (fun _ _ _ h => h) (YieldsM.of_if (Or.inl ⟨by rfl, ?hr3⟩)) ?rr3
  case hr3 => ((intro wz hSw; (try dsimp only at hSw); go_simp); try (with_reducible rfl))
  try simp only [Act.put, List.setIfInBounds_toArray, List.set_cons_zero, List.set_cons_succ]
  refine wpAnyM_take (i := 4) (oi := ⟨some 28, .move (.tmp 2), 3, "unpack.go:41", #[], none⟩) (v := ?vr4) rfl (by kernel_rfl) (by kernel_rfl) (by kernel_rfl) (fun _ _ _ h => h) (YieldsM.of_if (Or.inl ⟨by rfl, ?hr4⟩)) ?rr4
  case hr4 => ((intro wz hSw; (try dsimp only at hSw); go_simp); try (with_reducible rfl))
  try simp only [Act.put, List.setIfInBounds_toArray, List.set_cons_zero, List.set_cons_succ]
  refine wpAnyM_take (i := 5) (oi := ⟨some 29, .call { callee := .value (.func 41), args := #[.tmp 27, .tmp 28], argTypes := #[25, 3] }, 3, "unpack.go:41", #[⟨3, .data⟩, ⟨4, .data⟩, ⟨2, .chain⟩], none⟩) (v := (.int .i64 (b : Int))) rfl (by kernel_rfl) (by kernel_rfl) (by kernel_rfl) (fun _ _ _ h => h) (YieldsM.of_call (f := 41) (by rfl) (fun _ _ => by kernel_rfl) (HCB.out)) ?_
  try simp only [Act.put, List.setIfInBounds_toArray, List.set_cons_zero, List.set_cons_succ]
  refine wpAnyM_take (i := 6) (oi := ⟨some 10, .assign (.tmp 26), 3, "unpack.go:41", #[⟨2, .data⟩, ⟨5, .chain⟩, ⟨0, .phase⟩, ⟨1, .phase⟩, ⟨2, .phase⟩, ⟨3, .textOnly .lateStores⟩, ⟨4, .textOnly .lateStores⟩, ⟨5, .textOnly .lateStoresUnsure⟩], none⟩) (v := ?vr6) rfl (by kernel_rfl) (by kernel_rfl) (by kernel_rfl) (fun _ _ _ h => h) (YieldsM.of_if (Or.inl ⟨by rfl, ?hr6⟩)) ?rr6
  case hr6 => ((intro wz hSw; (try dsimp only at hSw); go_simp); try (with_reducible rfl))
  try simp only [Act.put, List.setIfInBounds_toArray, List.set_cons_zero, List.set_cons_succ]
  refine wpAnyM_take (i := 7) (oi := ⟨some 11, .assign (.tmp 29), 3, "unpack.go:41", #[⟨5, .data⟩, ⟨6, .chain⟩, ⟨0, .phase⟩, ⟨1, .phase⟩, ⟨2, .phase⟩, ⟨3, .phase⟩, ⟨4, .phase⟩, ⟨5, .phase⟩, ⟨6, .phase⟩], none⟩) (v := ?vr7) rfl (by kernel_rfl) (by kernel_rfl) (by kernel_rfl) (fun _ _ _ h => h) (YieldsM.of_if (Or.inl ⟨by rfl, ?hr7⟩)) ?rr7
  case hr7 => ((intro wz hSw; (try dsimp only at hSw); go_simp); try (with_reducible rfl))
  try simp only [Act.put, List.setIfInBounds_toArray, List.set_cons_zero, List.set_cons_succ]
  refine wpAnyM_done (by kernel_rfl) ?_ _
  intro y2 hg2 hS2
  have H2 : Hid (Below W0.heap.size W0 y2) := btrU H1.out hS2.2.2.2.2.2.out
  clear hS2 hg2 HCA HCB HSS
  obtain ⟨⟨c0, c1, c2, c3, c4⟩, l0, _⟩ := HX.out y2 H2.out
  go_wp2_with fail
  refine (HOV.out y2 H2.out).mono ?_
  rintro e y3 ⟨mo, mc, rfl, hg3⟩
  have G3 : Hid (GrI y2 y3 (.slice mo M.length mc) M ∧ Below W0.heap.size W0 y3) := ⟨hg3, btrU H2.out hg3.bel⟩
  have HLA : Hid (Calls Tryz.prog 32 #[(.agg #[.slice v.no h.node.length v.nc, .slice v.uo h.upF.length v.uc, .slice v.ul h.up.length v.ulc, .slice v.wo h.dnF.length v.wc, .slice v.dl h.dn.length v.dlc]), .slice mo M.length mc] y3 fun e w' => LayA y3 T e w') := by
    have g := lay_calls v h mo mc M y3 (HX.out y3 G3.out.2).2.2.2 HC.out.1 (ints_ownU hg3.own) (nilI_own hg3.own).2 HC.out.2.1 HC.out.2.2.1
    rw [HC.out.2.2.2.1] at g
    exact g
  clear hg3 c0 c1 c2 c3 c4 l0
  obtain ⟨⟨c0, c1, c2, c3, c4⟩, l0, _⟩ := HX.out y3 G3.out.2
  go_wp2_with fail
  refine HLA.out.mono ?_
  rintro e y4 ⟨hcase, hb4⟩
  rcases hcase with ⟨_, po, pc, rfl, ho⟩ | ⟨hgt, _⟩
  · have G4 : Hid (∀ wx, Below y4.heap.size y4 wx → HasInts wx (.slice po T.length pc) (zs T) ∧ Below W0.heap.size W0 wx) := fun wx hx => ⟨(ints_ownU ho).keep hx, btrU G3.out.2 (btrU hb4 hx)⟩
    clear ho hb4 c0 c1 c2 c3 c4 l0
    have HSS : Hid (∀ wx, Below y4.heap.size y4 wx → (fun w' : World => w'.cell? ⟨z, 0, none⟩ = some (.slice v.no h.node.length v.nc) ∧ w'.cell? ⟨z, 1, none⟩ = some (.slice v.uo h.upF.length v.uc) ∧ w'.cell? ⟨z, 2, none⟩ = some (.slice v.ul h.up.length v.ulc) ∧ w'.cell? ⟨z, 3, none⟩ = some (.slice v.wo h.dnF.length v.wc) ∧ w'.cell? ⟨z, 4, none⟩ = some (.slice v.dl h.dn.length v.dlc) ∧ Hid (Below y4.heap.size y4 w')) wx) := fun wx hx => by
      obtain ⟨⟨c0, c1, c2, c3, c4⟩, _, _⟩ := HX.out wx (G4.out wx hx).2
      exact ⟨c0, c1, c2, c3, c4, hx⟩
    go_upto_region 11 with fail
    refine wp_region_M (S := (fun w' : World => w'.cell? ⟨z, 0, none⟩ = some (.slice v.no h.node.length v.nc) ∧ w'.cell? ⟨z, 1, none⟩ = some (.slice v.uo h.upF.length v.uc) ∧ w'.cell? ⟨z, 2, none⟩ = some (.slice v.ul h.up.length v.ulc) ∧ w'.cell? ⟨z, 3, none⟩ = some (.slice v.wo h.dnF.length v.wc) ∧ w'.cell? ⟨z, 4, none⟩ = some (.slice v.dl h.dn.length v.dlc) ∧ Hid (Below y4.heap.size y4 w'))) (by kernel_rfl) (HSS.out _ (Below.refl _ _).drew) ?_
    refine wpAnyM_take (i := 0) (oi := ⟨some 56, .load 25 (.tmp 3), 25, "unpack.go:51", #[], none⟩) (v := ?va0) rfl (by kernel_rfl) (by kernel_rfl) (by kernel_rfl) (fun _ _ _ h => h) (YieldsM.of_if (Or.inl ⟨by rfl, ?ha0⟩)) ?ra0
    case ha0 => ((intro wz hSw; (try dsimp only at hSw); go_simp); try (with_reducible rfl))
    try simp only [Act.put, List.setIfInBounds_toArray, List.set_cons_zero, List.set_cons_succ]
    refine wpAnyM_take (i := 1) (oi := ⟨some 57, .load 25 (.tmp 3), 25, "unpack.go:51", #[], none⟩) (v := ?va1) rfl (by kernel_rfl) (by kernel_rfl) (by kernel_rfl) (fun _ _ _ h => h) (YieldsM.of_if (Or.inl ⟨by rfl, ?ha1⟩)) ?ra1
    case ha1 => ((intro wz hSw; (try dsimp only at hSw); go_simp); try (with_reducible rfl))
    try simp only [Act.put, List.setIfInBounds_toArray, List.set_cons_zero, List.set_cons_succ]
    refine wpAnyM_take (i := 2) (oi := ⟨some 58, .move (.tmp 10), 3, "unpack.go:51", #[], none⟩) (v := ?va2) rfl (by kernel_rfl) (by kernel_rfl) (by kernel_rfl) (fun _ _ _ h => h) (YieldsM.of_if (Or.inl ⟨by rfl, ?ha2⟩)) ?ra2
    case ha2 => ((intro wz hSw; (try dsimp only at hSw); go_simp); try (with_reducible rfl))
    try simp only [Act.put, List.setIfInBounds_toArray, List.set_cons_zero, List.set_cons_succ]
    refine wpAnyM_take (i := 3) (oi := ⟨some 59, .move (.tmp 13), 28, "unpack.go:51", #[], none⟩) (v := ?va3) rfl (by kernel_rfl) (by kernel_rfl) (by kernel_rfl) (fun _ _ _ h => h) (YieldsM.of_if (Or.inl ⟨by rfl, ?ha3⟩)) ?ra3
    case ha3 => ((intro wz hSw; (try dsimp only at hSw); go_simp); try (with_reducible rfl))
    try simp only [Act.put, List.setIfInBounds_toArray, List.set_cons_zero, List.set_cons_succ]
    refine readyM (i := 4) (o := ⟨some 60, .call { callee := .value (.func 38), args := #[.tmp 57, .tmp 58, .tmp 59], argTypes := #[25, 3, 28] }, 28, "unpack.go:51", #[⟨1, .data⟩, ⟨2, .data⟩, ⟨3, .data⟩], none⟩) rfl (by kernel_rfl) ?_
    intro u1 hg1 hS1 K hK
    have B1 : Hid (Below y4.heap.size y4 u1) := hS1.2.2.2.2.2.out
    have HAL : Hid (Calls Tryz.prog 38 #[(.agg #[.slice v.no h.node.length v.nc, .slice v.uo h.upF.length v.uc, .slice v.ul h.up.length v.ulc, .slice v.wo h.dnF.length v.wc, .slice v.dl h.dn.length v.dlc]), .int .i64 (a : Int), .slice po T.length pc] u1 fun e w' => ∃ mo mc, e = .returned (.slice mo (alR h a T).length mc) ∧ GrI u1 w' (.slice mo (alR h a T).length mc) (alR h a T)) := ualong_calls v h a po pc T u1 (HX.out u1 (G4.out u1 B1.out).2).2.2.2 HC.out.1 (G4.out u1 B1.out).1 HC.out.2.2.2.2.2.1 (by have := HC.out.2.2.2.2.1; omega)
    clear hS1 hg1
    go_simp
    refine HAL.out.mono ?_
    rintro e u2 ⟨ao, ac, rfl, hg2⟩
    obtain ⟨A, hA⟩ : ∃ A, alR h a T = A := ⟨_, rfl⟩
    rw [hA] at hg2
    rw [hA]
    have HAA : Hid (alR h a T = A ∧ A.length ≤ 200000 ∧ ∀ r ∈ A, r < h.node.length) := by
      refine ⟨hA, ?_, ?_⟩
      · rw [← hA, alR_len]; have := HC.out.2.2.2.2.1; omega
      · rw [← hA]; exact alR_all HC.out.1 HC.out.2.2.2.2.2.2.2.2.2.1 HC.out.2.2.2.2.2.1
    have G2 : Hid (GrI u1 u2 (.slice ao A.length ac) A) := hg2
    clear hg2 hA HAL
    go_wp2_with fail
    refine hK.out _ _ (HSS.out _ (btrU B1.out G2.out.bel)) ?_
    clear hK K
    try simp only [Act.put, List.setIfInBounds_toArray, List.set_cons_zero, List.set_cons_succ]
    refine readyM (i := 5) (o := ⟨some 61, .call { callee := .value (.func 44), args := #[.tmp 60], argTypes := #[28] }, 28, "unpack.go:51", #[⟨4, .data⟩, ⟨4, .chain⟩], none⟩) rfl (by kernel_rfl) ?_
    intro u3 hg3 hS3 K hK
    have B3 : Hid (Below y4.heap.size y4 u3) := hS3.2.2.2.2.2.out
    have HSI : Hid (Calls Tryz.prog 44 #[.slice ao A.length ac] u3 fun e w' => ∃ so sc, e = .returned (.slice so SN.length sc) ∧ GrI u3 w' (.slice so SN.length sc) SN) := by
      have g := simple_calls ao ac (zs A) u3 (by rw [zs_len]; exact (ints_ownU G2.out.own).keep hg3) (wf_zs HC.out.2.2.2.2.2.2.2.2.2.2 HAA.out.2.2) (by rw [zs_len]; have := HAA.out.2.1; omega)
      have e1 : simpS (zs A) = zs SN := by rw [← HAA.out.1]; exact HC.out.2.2.2.2.2.2.1
      rw [e1, zs_len, zs_len] at g
      exact g.mono (by rintro e w' ⟨so, sc, rfl, ho, hb2⟩; exact ⟨so, sc, rfl, ho, hb2⟩)
    clear hS3 hg3
    go_simp
    refine HSI.out.mono ?_
    rintro e u4 ⟨so, sc, rfl, hg4⟩
    have G4' : Hid (GrI u3 u4 (.slice so SN.length sc) SN) := hg4
    clear hg4 HSI
    go_wp2_with fail
    refine hK.out _ _ (HSS.out _ (btrU B3.out G4'.out.bel)) ?_
    clear hK K
    try simp only [Act.put, List.setIfInBounds_toArray, List.set_cons_zero, List.set_cons_succ]
    refine readyM (i := 6) (o := ⟨some 62, .call { callee := .value (.func 37), args := #[.tmp 56, .tmp 61], argTypes := #[25, 28] }, 28, "unpack.go:51", #[⟨0, .data⟩, ⟨5, .data⟩, ⟨5, .chain⟩], none⟩) rfl (by kernel_rfl) ?_
    intro u5 hg5 hS5 K hK
    have B5 : Hid (Below y4.heap.size y4 u5) := hS5.2.2.2.2.2.out
    have HND : Hid (Calls Tryz.prog 37 #[(.agg #[.slice v.no h.node.length v.nc, .slice v.uo h.upF.length v.uc, .slice v.ul h.up.length v.ulc, .slice v.wo h.dnF.length v.wc, .slice v.dl h.dn.length v.dlc]), .slice so SN.length sc] u5 fun e w' => ∃ mo mc, e = .returned (.slice mo (ndR h SN).length mc) ∧ GrI u5 w' (.slice mo (ndR h SN).length mc) (ndR h SN)) := unodes_calls v h so sc SN u5 (HX.out u5 (G4.out u5 B5.out).2).2.2.2 ((ints_ownU G4'.out.own).keep hg5) HC.out.2.2.2.2.2.2.2.1 HC.out.2.2.2.2.2.2.2.2.1
    clear hS5 hg5
    go_simp
    refine HND.out.mono ?_
    rintro e u6 ⟨no, nc, rfl, hg6⟩
    have G6 : Hid (GrI w u6 (.slice no (ndR h SN).length nc) (ndR h SN) ∧ Below y4.heap.size y4 u6) := ⟨⟨own_lowU hg6.own ((HX.out u5 (G4.out u5 B5.out).2).2.2.1).size, (HX.out u6 (G4.out u6 (btrU B5.out hg6.bel)).2).2.2.1⟩, btrU B5.out hg6.bel⟩
    clear hg6 HND
    go_wp2_with fail
    refine hK.out _ _ (HSS.out _ G6.out.2) ?_
    clear hK K
    try simp only [Act.put, List.setIfInBounds_toArray, List.set_cons_zero, List.set_cons_succ]
    refine wpAnyM_take (i := 7) (oi := ⟨some 6, .assign (.tmp 62), 28, "unpack.go:51", #[⟨6, .data⟩, ⟨6, .chain⟩, ⟨0, .phase⟩, ⟨1, .phase⟩, ⟨2, .phase⟩, ⟨3, .phase⟩, ⟨4, .phase⟩, ⟨5, .phase⟩, ⟨6, .phase⟩], none⟩) (v := ?vc7) rfl (by kernel_rfl) (by kernel_rfl) (by kernel_rfl) (fun _ _ _ h => h) (YieldsM.of_if (Or.inl ⟨by rfl, ?hc7⟩)) ?rc7
    case hc7 => ((intro wz hSw; (try dsimp only at hSw); go_simp); try (with_reducible rfl))
    try simp only [Act.put, List.setIfInBounds_toArray, List.set_cons_zero, List.set_cons_succ]
    refine wpAnyM_take (i := 8) (oi := ⟨some 7, .assign (.const .nilIface), 30, "unpack.go:51", #[⟨7, .chain⟩, ⟨0, .phase⟩, ⟨1, .phase⟩, ⟨2, .phase⟩, ⟨3, .phase⟩, ⟨4, .phase⟩, ⟨5, .phase⟩, ⟨6, .phase⟩, ⟨7, .phase⟩], none⟩) (v := ?vc8) rfl (by kernel_rfl) (by kernel_rfl) (by kernel_rfl) (fun _ _ _ h => h) (YieldsM.of_if (Or.inl ⟨by rfl, ?hc8⟩)) ?rc8
    case hc8 => ((intro wz hSw; (try dsimp only at hSw); go_simp); try (with_reducible rfl))
    try simp only [Act.put, List.setIfInBounds_toArray, List.set_cons_zero, List.set_cons_succ]
    refine wpAnyM_done (by kernel_rfl) ?_ _
    intro u9 hg9 hS9
    have G9 : Hid (GrI w u9 (.slice no (ndR h SN).length nc) (ndR h SN)) := G6.out.1.up hg9
    clear hS9 hg9 G6
    go_wp2
    go_ret2
    exact ⟨no, nc, rfl, G9.out⟩
  · exact absurd HC.out.2.2.2.2.1 (by omega)
end Go.Proofs.YtodilocmfdeehaaGreatDoor.Hi

namespace Go.Proofs.YtodilocmfdeehaaGreatDoor.Hi
open Go.RowKit Go.Extern Cb Qy

attribute [local go_sem] Oper.semAt_some

theorem lk_three : lkE three 1 = (0, []) ∧ lkL three 1 = [2, 0] ∧ lkN three 1 = [0, 1, 2] := by
  refine ⟨?_, ?_, ?_⟩ <;> kernel_rfl
theorem ov_three : ovL three (rankOf three 0) 2 (rankOf three 2) = [1] := by kernel_rfl
theorem lay_three : layL three [1] = [2, 0] := by kernel_rfl
theorem sim_three : simpS (zs (alR three (rankOf three 0) [2, 0])) = zs [1, 0, 2] := by kernel_rfl
theorem nd_three : ndR three [1, 0, 2] = [0, 1, 2] := by kernel_rfl
theorem std_three : (stds three).length = 3 := by kernel_rfl
theorem ints_litU (W : World) (L : List Nat) : HasInts (W.alloc (.cells (iv (zs L)).toArray 3)) (.slice (some ⟨W.heap.size, 0, none⟩) L.length L.length) (zs L) := by
  refine ⟨_, _, by rw [zs_len], fun j a hj => ⟨W.heap.size, 0, rfl, by simp, ?_⟩⟩
  have g := new_cellsU W (iv (zs L)) 3 j (.int .i64 a) (by unfold iv; rw [List.getElem?_map, hj]; rfl)
  have e : (⟨W.heap.size, 0, none⟩ : Addr).add j = ⟨W.heap.size, 0 + j, none⟩ := by
    by_cases h0 : j = 0
    · subst h0; rfl
    · simp [Addr.add, h0]
  rw [e] at g
  exact g

set_option maxRecDepth 100000 in
set_option maxHeartbeats 8000000 in
theorem awake22_calls (w : World) : Calls Tryz.prog 7 #[] w fun e w' => e = .returned (.bool true) ∧ Below w.heap.size w w' := by
  have HT : Hid (∀ wx : World, Calls Tryz.prog 29 #[] wx fun e w' => ∃ v, e = .returned (hvl v three) ∧ HasH w' v three ∧ Below wx.heap.size wx w') := fun wx => three_calls wx
  have HL : Hid (∀ wx v, HasH wx v three → Calls Tryz.prog 9 #[hvl v three, .int .i64 1] wx fun e w' => ∃ mo mc, e = .returned (.tuple #[.slice mo 2 mc, .nilIface]) ∧ GrI wx w' (.slice mo 2 mc) [2, 0]) := fun wx v hv => (ulinks_calls v three 1 wx hv (by decide) (by decide) (by decide)).mono (by
    rintro e w' ⟨mo, mc, u, rfl, ht, hg⟩
    rw [lk_three.1] at ht
    rw [lk_three.2.1] at hg
    have hu := isTold_nil ht
    subst hu
    rw [lk_three.2.1]
    exact ⟨mo, mc, rfl, hg⟩)
  have HN : Hid (∀ wx v, HasH wx v three → Calls Tryz.prog 15 #[hvl v three, .int .i64 1] wx fun e w' => ∃ mo mc, e = .returned (.tuple #[.slice mo 3 mc, .nilIface]) ∧ GrI wx w' (.slice mo 3 mc) [0, 1, 2]) := fun wx v hv => (unodesX_calls v three 1 wx hv (by decide) (by decide) (by decide)).mono (by
    rintro e w' ⟨mo, mc, u, rfl, ht, hg⟩
    rw [lk_three.1] at ht
    rw [lk_three.2.2] at hg
    have hu := isTold_nil ht
    subst hu
    rw [lk_three.2.2]
    exact ⟨mo, mc, rfl, hg⟩)
  have HP : Hid (∀ wx v, HasH wx v three → Calls Tryz.prog 17 #[hvl v three, .int .i64 0, .int .i64 2] wx fun e w' => ∃ mo mc, e = .returned (.tuple #[.slice mo 3 mc, .nilIface]) ∧ GrI wx w' (.slice mo 3 mc) [0, 1, 2]) := fun wx v hv => (upath_good v three 0 2 2 5 [1] [2, 0] [1, 0, 2] wx hv chk_three (by decide) (by decide) meet_three.1 ov_three (by rw [std_three]; decide) (by decide) lay_three (by decide) (by rw [std_three]; decide) sim_three (by decide) (by decide)).mono (by
    rintro e w' ⟨mo, mc, rfl, hg⟩
    rw [nd_three] at hg
    rw [nd_three]
    exact ⟨mo, mc, rfl, hg⟩)
  go_enter Tryz.func7, Tryz.ntmps7
  go_wp2_with fail
  refine (HT.out w).mono ?_
  rintro e w1 ⟨v1, rfl, hH1, hb1⟩
  have H1 : Hid (HasH w1 v1 three ∧ Below w.heap.size w w1) := ⟨hH1, hb1⟩
  clear hH1 hb1
  go_wp2_with fail
  refine (HL.out w1 v1 H1.out.1).mono ?_
  rintro e w2 ⟨ao, ac, rfl, hg2⟩
  have H2 : Hid (HasInts w2 (.slice ao 2 ac) (zs [2, 0]) ∧ Below w.heap.size w w2) := ⟨ints_ownU (L := [2, 0]) hg2.own, btrU H1.out.2 hg2.bel⟩
  clear hg2
  go_wp2_with fail
  refine (HT.out w2).mono ?_
  rintro e w3 ⟨v3, rfl, hH3, hb3⟩
  have H3 : Hid (HasH w3 v3 three ∧ Below w2.heap.size w2 w3) := ⟨hH3, hb3⟩
  clear hH3 hb3
  go_wp2_with fail
  refine (HN.out w3 v3 H3.out.1).mono ?_
  rintro e w4 ⟨no, nc, rfl, hg4⟩
  have H4 : Hid (HasInts w4 (.slice no 3 nc) (zs [0, 1, 2]) ∧ Below w2.heap.size w2 w4) := ⟨ints_ownU (L := [0, 1, 2]) hg4.own, btrU H3.out.2 hg4.bel⟩
  clear hg4
  go_wp2_with fail
  refine (HT.out w4).mono ?_
  rintro e w5 ⟨v5, rfl, hH5, hb5⟩
  have H5 : Hid (HasH w5 v5 three ∧ Below w4.heap.size w4 w5) := ⟨hH5, hb5⟩
  clear hH5 hb5
  go_wp2_with fail
  refine (HP.out w5 v5 H5.out.1).mono ?_
  rintro e w6 ⟨po, pc, rfl, hg6⟩
  have H6 : Hid ((HasInts w6 (.slice po 3 pc) (zs [0, 1, 2]) ∧ HasInts w6 (.slice no 3 nc) (zs [0, 1, 2]) ∧ HasInts w6 (.slice ao 2 ac) (zs [2, 0])) ∧ Below w.heap.size w w6) := by
    have b5 := btrU H5.out.2 hg6.bel
    have b4 := btrU H4.out.2 b5
    exact ⟨⟨ints_ownU (L := [0, 1, 2]) hg6.own, H4.out.1.keep b5, H2.out.1.keep b4⟩, btrU H2.out.2 b4⟩
  clear hg6
  obtain ⟨V1, hV1⟩ : ∃ V1, w6.alloc (.cells #[.int .i64 2, .int .i64 0] 3) = V1 := ⟨_, rfl⟩
  have HV1 : Hid (w6.alloc (.cells #[.int .i64 2, .int .i64 0] 3) = V1) := hV1
  have K1 : Hid (HasInts V1 (.slice (some ⟨w6.heap.size, 0, none⟩) 2 2) (zs [2, 0]) ∧ Below w6.heap.size w6 V1) := by
    rw [← hV1]; exact ⟨ints_litU w6 [2, 0], (Below.refl _ _).alloc (Nat.le_refl _) _⟩
  clear hV1
  go_wp2_with fail
  rw [HV1.out]
  refine (sameInts_yes _ _ (zs [2, 0]) V1 (H6.out.1.2.2.keep K1.out.2) K1.out.1 (by decide)).mono ?_
  rintro e w7 ⟨rfl, hb⟩
  have B7 : Hid (Below w6.heap.size w6 w7) := btrU K1.out.2 hb
  clear hb
  obtain ⟨V2, hV2⟩ : ∃ V2, w7.alloc (.cells #[.int .i64 0, .int .i64 1, .int .i64 2] 3) = V2 := ⟨_, rfl⟩
  have HV2 : Hid (w7.alloc (.cells #[.int .i64 0, .int .i64 1, .int .i64 2] 3) = V2) := hV2
  have K2 : Hid (HasInts V2 (.slice (some ⟨w7.heap.size, 0, none⟩) 3 3) (zs [0, 1, 2]) ∧ Below w6.heap.size w6 V2) := by
    rw [← hV2]; exact ⟨ints_litU w7 [0, 1, 2], btrU B7.out ((Below.refl _ _).alloc (Nat.le_refl _) _)⟩
  clear hV2
  go_wp2_with fail
  rw [HV2.out]
  refine (sameInts_yes _ _ (zs [0, 1, 2]) V2 (H6.out.1.2.1.keep K2.out.2) K2.out.1 (by decide)).mono ?_
  rintro e w8 ⟨rfl, hb⟩
  have B8 : Hid (Below w6.heap.size w6 w8) := btrU K2.out.2 hb
  clear hb
  obtain ⟨V3, hV3⟩ : ∃ V3, w8.alloc (.cells #[.int .i64 0, .int .i64 1, .int .i64 2] 3) = V3 := ⟨_, rfl⟩
  have HV3 : Hid (w8.alloc (.cells #[.int .i64 0, .int .i64 1, .int .i64 2] 3) = V3) := hV3
  have K3 : Hid (HasInts V3 (.slice (some ⟨w8.heap.size, 0, none⟩) 3 3) (zs [0, 1, 2]) ∧ Below w6.heap.size w6 V3) := by
    rw [← hV3]; exact ⟨ints_litU w8 [0, 1, 2], btrU B8.out ((Below.refl _ _).alloc (Nat.le_refl _) _)⟩
  clear hV3
  go_wp2_with fail
  rw [HV3.out]
  refine (sameInts_yes _ _ (zs [0, 1, 2]) V3 (H6.out.1.1.keep K3.out.2) K3.out.1 (by decide)).mono ?_
  rintro e w9 ⟨rfl, hb⟩
  have B9 : Hid (Below w6.heap.size w6 w9) := btrU K3.out.2 hb
  clear hb
  go_wp2
  go_ret
  exact ⟨rfl, btrU H6.out.2 B9.out⟩
end Go.Proofs.YtodilocmfdeehaaGreatDoor.Hi

namespace Go.Proofs.YtodilocmfdeehaaGreatDoor.Hi
open Go.RowKit Go.Extern

/-- what links weigh together. -/
def wtS (h : Hr) (L : List Nat) : Nat := (L.map fun i => (lkO h i).lk.wt).sum
theorem wtS_append (h : Hr) (L M : List Nat) : wtS h (L ++ M) = wtS h L + wtS h M := by unfold wtS; rw [List.map_append, List.sum_append]
theorem wtS_one (h : Hr) (i : Nat) : wtS h [i] = (lkO h i).lk.wt := by simp [wtS]
theorem wtS_take (h : Hr) (L : List Nat) (k : Nat) : wtS h (L.take k) ≤ wtS h L := by
  have e := wtS_append h (L.take k) (L.drop k)
  rw [List.take_append_drop] at e
  omega
theorem flat_weighs {h : Hr} (hc : chk h = (0, [])) : ∀ (f i : Nat), i < (stds h).length → (lkO h i).rk < f → wtS h (flat h f i) = (lkO h i).lk.wt
  | 0, _, _, h1 => absurd h1 (by omega)
  | f + 1, i, hi, h1 => by
    cases hp : plO h i with
    | true =>
      unfold flat
      rw [if_pos hp, wtS_one]
    | false =>
      obtain ⟨k1, k2, k3, k4⟩ := kidsU hc hi hp
      have g := falls hc hi hp
      have e1 := flat_weighs hc f (lkO h i).lk.lf k1 (by omega)
      have e2 := flat_weighs hc f (lkO h i).lk.rt k2 (by omega)
      unfold flat
      rw [if_neg (by rw [hp]; decide), wtS_append, e1, e2]
      have e3 := g.wt
      rw [(link_ok hc g.l1).lk, (link_ok hc g.l2).lk] at e3
      exact e3.symm
theorem flatI_weighs {h : Hr} (hc : chk h = (0, [])) {i : Nat} (hi : i < (stds h).length) : wtS h (flatI h i) = (lkO h i).lk.wt := flat_weighs hc _ i hi (Nat.lt_succ_self _)
theorem weighs_few {h : Hr} (hc : chk h = (0, [])) {i : Nat} (hi : i < (stds h).length) : (lkO h i).lk.wt ≤ 140737488355328 := by
  cases hp : plO h i with
  | true =>
    have g := (link_ok hc hi).mak
    unfold making at g
    have hp' : (sd (stds h) i).lk.plain = true := hp
    rw [if_pos hp'] at g
    split at g
    · exact absurd g (by decide)
    · show (sd (stds h) i).lk.wt ≤ _
      omega
  | false => exact (falls hc hi hp).ws
theorem alR_cons (h : Hr) (a i : Nat) (L : List Nat) : alR h a (i :: L) = a :: alR h (lkO h i).head L := by simp [alR]
/-- each link of a walk goes from one of its ranks to the next. -/
theorem chain_at {h : Hr} : ∀ {a b : Nat} {L : List Nat}, Chain h a b L → ∀ (k i : Nat), L[k]? = some i → i < (stds h).length ∧ plO h i = true ∧ (alR h a L)[k]? = some (lkO h i).tail ∧ (alR h a L)[k + 1]? = some (lkO h i).head
  | _, _, [], _, _, _, hk => by simp at hk
  | _, _, j :: L, ⟨k1, k2, k3, k4⟩, 0, i, hk => by
    simp at hk
    subst hk
    rw [alR_cons]
    exact ⟨k1, k2, by simp [k3], by simp [alR]⟩
  | _, _, j :: L, ⟨_, _, _, k4⟩, k + 1, i, hk => by
    obtain ⟨g1, g2, g3, g4⟩ := chain_at k4 k i (by simpa using hk)
    rw [alR_cons]
    exact ⟨g1, g2, by simpa using g3, by simpa using g4⟩
theorem chain_ends {h : Hr} : ∀ {a b : Nat} {L : List Nat}, Chain h a b L → (alR h a L)[0]? = some a ∧ (alR h a L)[L.length]? = some b
  | _, _, [], k => by
    have e : _ = _ := k
    subst e
    simp [alR]
  | a, b, j :: L, ⟨_, _, _, k4⟩ => by
    obtain ⟨_, g2⟩ := chain_ends k4
    rw [alR_cons]
    exact ⟨by simp, by simpa using g2⟩
theorem ndR_at {h : Hr} {L : List Nat} {k r : Nat} (hk : L[k]? = some r) : (ndR h L)[k]? = some (nth h.node r) := by simp [ndR, hk]
/-- all that is told of the links for which a link stands. -/
structure Stood (h : Hr) (i : Nat) (F R : List Nat) : Prop where
  fe : flatI h i = F
  re : alR h (lkO h i).tail F = R
  ne : 0 < F.length
  len : R.length = F.length + 1
  st : R[0]? = some (lkO h i).tail
  en : R[F.length]? = some (lkO h i).head
  at_ : ∀ k j : Nat, F[k]? = some j → j < (stds h).length ∧ plO h j = true ∧ R[k]? = some (lkO h j).tail ∧ R[k + 1]? = some (lkO h j).head
  lt : ∀ k r : Nat, R[k]? = some r → r < h.node.length
  wt : wtS h F = (lkO h i).lk.wt
  few : (lkO h i).lk.wt ≤ 140737488355328
theorem stood {h : Hr} (hc : chk h = (0, [])) {i : Nat} (hi : i < (stds h).length) : Stood h i (flatI h i) (alR h (lkO h i).tail (flatI h i)) := by
  obtain ⟨g1, g2⟩ := flat_chain hc _ i hi (Nat.lt_succ_self _)
  have g3 : Chain h (lkO h i).tail (lkO h i).head (flatI h i) := g1
  have g4 : flatI h i ≠ [] := g2
  refine ⟨rfl, rfl, List.length_pos_iff.2 g4, alR_len _ _ _, (chain_ends g3).1, (chain_ends g3).2, chain_at g3, fun k r hk => ?_, flatI_weighs hc hi, weighs_few hc hi⟩
  exact alR_all hc (head_lt hc hi).2 (flatI_all hc hi) r (List.mem_of_getElem? hk)
end Go.Proofs.YtodilocmfdeehaaGreatDoor.Hi

namespace Go.Proofs.YtodilocmfdeehaaGreatDoor.Hi
open Go.RowKit Go.Extern Go.Shelf Cb Qy

attribute [local go_sem] Oper.semAt_some

/-- few ranks, few links? -/
def fewB22 (h : Hr) : Bool := decide (h.node.length ≤ 14) && decide (h.up.length + h.dn.length ≤ 400)
set_option maxRecDepth 100000 in
set_option maxHeartbeats 2000000 in
theorem few22_calls (v : HV) (h : Hr) (w : World) (hb1 : h.up.length ≤ 1152921504606846976) (hb2 : h.dn.length ≤ 1152921504606846976) :
    Calls Tryz.prog 23 #[hvl v h] w fun e w' => e = .returned (.bool (fewB22 h)) ∧ Below w.heap.size w w' := by
  obtain ⟨W0, hW0⟩ : ∃ W0, w.alloc (.cells (cellsH v h) 25) = W0 := ⟨_, rfl⟩
  have h0 : ∀ wx, Below W0.heap.size W0 wx → wx.heap[w.heap.size]? = some (.cells (cellsH v h) 25) ∧ Below w.heap.size w wx := fun wx hx => by
    have h1 : W0.heap[w.heap.size]? = some (.cells (cellsH v h) 25) := by rw [← hW0]; exact heap_newW _ _
    have h2 : Below w.heap.size w W0 := by rw [← hW0]; exact (Below.refl _ _).alloc (Nat.le_refl _) _
    exact ⟨(hx.block _ (some_lt h1)).trans h1, h2.trans (hx.mono h2.size)⟩
  have HW0 : Hid (w.alloc (.cells (cellsH v h) 25) = W0) := hW0
  have H0 : Hid (type_of% h0) := h0
  have HC : Hid (∀ wx, Calls Tryz.prog 30 #[hvl v h] wx fun e w' => e = .returned (.int .i64 ((h.up.length + h.dn.length : Nat) : Int)) ∧ w' = wx.alloc (.cells (cellsH v h) 25)) := fun wx => count_calls v h wx hb1 hb2
  obtain ⟨c0, c1, c2, c3, c4⟩ := five_cells (h0 W0 (Below.refl _ _)).1
  clear hW0 h0
  unfold hvl at HC ⊢
  unfold fewB22
  generalize hc : h.up.length + h.dn.length = C at *
  have HS : Hid (w.heap.size < W0.heap.size) := some_lt (H0.out W0 (Below.refl _ _)).1
  unfold cellsH at HW0
  go_enter Tryz.func23, Tryz.ntmps23
  go_upto_region 1 with fail
  rw [HW0.out]
  by_cases g1 : h.node.length ≤ 14
  · have d1 : decide ((h.node.length : Int) ≤ 14) = true := by simp; omega
    by_cases g2 : C ≤ 400
    · have d2 : decide ((C : Int) ≤ 400) = true := by simp; omega
      go_wp2_with (go_at_call 30; refine (HC.out _).mono ?_; rintro e w' ⟨rfl, rfl⟩; obtain ⟨k0, k1, k2, k3, k4⟩ := five_cells (H0.out _ ((Below.refl _ W0).alloc (Nat.le_refl _) (.cells (cellsH v h) 25))).1)
      go_ret
      exact ⟨by rw [decide_eq_true g1, decide_eq_true g2]; rfl, (H0.out _ ((Below.refl _ W0).alloc (Nat.le_refl _) _)).2⟩
    · have d2 : decide ((C : Int) ≤ 400) = false := by simp; omega
      go_wp2_with (go_at_call 30; refine (HC.out _).mono ?_; rintro e w' ⟨rfl, rfl⟩; obtain ⟨k0, k1, k2, k3, k4⟩ := five_cells (H0.out _ ((Below.refl _ W0).alloc (Nat.le_refl _) (.cells (cellsH v h) 25))).1)
      go_ret
      exact ⟨by rw [decide_eq_true g1, decide_eq_false g2]; rfl, (H0.out _ ((Below.refl _ W0).alloc (Nat.le_refl _) _)).2⟩
  · have d1 : decide ((h.node.length : Int) ≤ 14) = false := by simp; omega
    go_wp2
    go_ret
    exact ⟨by rw [decide_eq_false g1]; rfl, (H0.out _ (Below.refl _ _)).2⟩

set_option maxRecDepth 100000 in
/-- no error is not the one that is wanted. -/
theorem seen_nilBad (c : Int) (hc : c ≠ 0) (w : World) :
    Calls Tryz.prog 13 #[.nilIface, .agg #[.int .i64 c, .slice none 0 0]] w fun e w' => e = .returned (.bool false) ∧ Below w.heap.size w w' := by
  have HB : Hid (∀ wx, Below (w.alloc (.cells #[.int .i64 c, .slice none 0 0] 36)).heap.size (w.alloc (.cells #[.int .i64 c, .slice none 0 0] 36)) wx → Below w.heap.size w wx) := fun wx hx => btrU ((Below.refl _ w).alloc (Nat.le_refl _) _) hx
  have HD : Hid ((decide (c ≠ 0) || decide (0 < 0)) = true) := by show _ = _; simp [hc]
  have hcb : (c != 0) = true := by simpa using hc
  obtain ⟨W0, hW0⟩ : ∃ W0, w.alloc (.cells #[.int .i64 c, .slice none 0 0] 36) = W0 := ⟨_, rfl⟩
  have h0 : W0.heap[w.heap.size]? = some (.cells #[.int .i64 c, .slice none 0 0] 36) := by rw [← hW0]; exact heap_newW _ _
  have HW0 : Hid (w.alloc (.cells #[.int .i64 c, .slice none 0 0] 36) = W0) := hW0
  obtain ⟨q0, q1, _, _⟩ := cell_two h0
  rw [hW0] at HB
  clear hW0 h0
  go_enter Tryz.func13, Tryz.ntmps13
  go_upto_region 1 with fail
  rw [HW0.out]
  go_wp2_with fail
  refine (bad_calls c none 0 0 W0).mono ?_
  rintro e y1 ⟨rfl, hb⟩
  have H1 : Hid (Below w.heap.size w y1) := HB.out y1 hb
  rw [HD.out]
  clear hb q0 q1
  go_wp2
  go_ret
  exact ⟨rfl, H1.out⟩
end Go.Proofs.YtodilocmfdeehaaGreatDoor.Hi

namespace Go.Proofs.YtodilocmfdeehaaGreatDoor.Hi
open Go.RowKit Go.Extern Go.Shelf Cb Qy

attribute [local go_sem] Oper.semAt_some

set_option maxRecDepth 100000 in
set_option maxHeartbeats 16000000 in
theorem unpackSums_calls (v : HV) (h : Hr) (w : World) (hty : HasType w) (hw0 : 0 < w.heap.size) (hH : HasH w v h) (hb1 : h.up.length ≤ 1152921504606846976) (hb2 : h.dn.length ≤ 1152921504606846976) (hb3 : h.node.length ≤ 1152921504606846976) :
    Calls Tryz.prog 5 #[hvl v h] w fun e w' => e = .returned (.bool true) ∧ Below w.heap.size w w' := by
  obtain ⟨z, hz⟩ : ∃ z, w.heap.size = z := ⟨_, rfl⟩
  obtain ⟨W0, hW0⟩ : ∃ W0, w.alloc (.cells #[.slice v.no h.node.length v.nc, .slice v.uo h.upF.length v.uc, .slice v.ul h.up.length v.ulc, .slice v.wo h.dnF.length v.wc, .slice v.dl h.dn.length v.dlc] 25) = W0 := ⟨_, rfl⟩
  have HW0 : Hid (w.alloc (.cells #[.slice v.no h.node.length v.nc, .slice v.uo h.upF.length v.uc, .slice v.ul h.up.length v.ulc, .slice v.wo h.dnF.length v.wc, .slice v.dl h.dn.length v.dlc] 25) = W0) := hW0
  have hB0 : Below w.heap.size w W0 := by rw [← hW0]; exact (Below.refl _ _).alloc (Nat.le_refl _) _
  have hbx : W0.heap[z]? = some (.cells #[.slice v.no h.node.length v.nc, .slice v.uo h.upF.length v.uc, .slice v.ul h.up.length v.ulc, .slice v.wo h.dnF.length v.wc, .slice v.dl h.dn.length v.dlc] 25) := by rw [← hW0, ← hz]; exact heap_newW _ _
  have HX : Hid (∀ wx, Below W0.heap.size W0 wx → (wx.cell? ⟨z, 0, none⟩ = some (.slice v.no h.node.length v.nc) ∧ wx.cell? ⟨z, 1, none⟩ = some (.slice v.uo h.upF.length v.uc) ∧ wx.cell? ⟨z, 2, none⟩ = some (.slice v.ul h.up.length v.ulc) ∧ wx.cell? ⟨z, 3, none⟩ = some (.slice v.wo h.dnF.length v.wc) ∧ wx.cell? ⟨z, 4, none⟩ = some (.slice v.dl h.dn.length v.dlc)) ∧ z < wx.heap.size ∧ Below w.heap.size w wx ∧ HasH wx v h ∧ HasType wx) := fun wx hb => by
    have q := (hb.block _ (some_lt hbx)).trans hbx
    have q2 := hB0.trans (hb.mono hB0.size)
    exact ⟨five_cells q, some_lt q, q2, hH.keep q2, hty.keep q2 hw0⟩
  have HDC : Hid (∀ wx, Below W0.heap.size W0 wx → Calls Tryz.prog 22 #[(.agg #[.slice v.no h.node.length v.nc, .slice v.uo h.upF.length v.uc, .slice v.ul h.up.length v.ulc, .slice v.wo h.dnF.length v.wc, .slice v.dl h.dn.length v.dlc])] wx fun e w' => RA wx (chk h) e w') := fun wx hx => docCheck10_calls v h wx (HX.out wx hx).2.2.2.1 hb1 hb2 hb3
  have HFW : Hid (∀ wx, Calls Tryz.prog 23 #[(.agg #[.slice v.no h.node.length v.nc, .slice v.uo h.upF.length v.uc, .slice v.ul h.up.length v.ulc, .slice v.wo h.dnF.length v.wc, .slice v.dl h.dn.length v.dlc])] wx fun e w' => e = .returned (.bool (fewB22 h)) ∧ Below wx.heap.size wx w') := fun wx => few22_calls v h wx hb1 hb2
  have HLK : Hid (∀ (wx : World) (i : Int), HasH wx v h → Calls Tryz.prog 9 #[(.agg #[.slice v.no h.node.length v.nc, .slice v.uo h.upF.length v.uc, .slice v.ul h.up.length v.ulc, .slice v.wo h.dnF.length v.wc, .slice v.dl h.dn.length v.dlc]), .int .i64 i] wx (LkA wx (lkE h i) (lkL h i)) ∧ Calls Tryz.prog 15 #[(.agg #[.slice v.no h.node.length v.nc, .slice v.uo h.upF.length v.uc, .slice v.ul h.up.length v.ulc, .slice v.wo h.dnF.length v.wc, .slice v.dl h.dn.length v.dlc]), .int .i64 i] wx (LkA wx (lkE h i) (lkN h i))) := fun wx i hu => ⟨ulinks_calls v h i wx hu hb1 hb2 hb3, unodesX_calls v h i wx hu hb1 hb2 hb3⟩
  have HTL : Hid (∀ (wx : World) (i : Nat), HasH wx v h → i < h.up.length + h.dn.length → Calls Tryz.prog 27 #[(.agg #[.slice v.no h.node.length v.nc, .slice v.uo h.upF.length v.uc, .slice v.ul h.up.length v.ulc, .slice v.wo h.dnF.length v.wc, .slice v.dl h.dn.length v.dlc]), .int .i64 (i : Int)] wx fun e w' => e = .returned (lvl (linkAt h i)) ∧ Below wx.heap.size wx w') := fun wx i hu hi => link_calls v h i wx hu hb2 hi
  obtain ⟨fb, hfb⟩ : ∃ fb, fewB22 h = fb := ⟨_, rfl⟩
  rw [hfb] at HFW
  clear hW0 hB0 hbx hH hty hb1 hb2 hb3 hfb hw0
  unfold hvl
  go_enter Tryz.func5, Tryz.ntmps5
  go_upto_region 1 with fail
  rw [HW0.out]
  go_wp2_with fail
  refine (awake22_calls W0).mono ?_
  rintro e y1 ⟨rfl, hb⟩
  have B1 : Hid (Below W0.heap.size W0 y1) := hb
  clear hb
  obtain ⟨⟨c0, c1, c2, c3, c4⟩, l0, _⟩ := HX.out y1 B1.out
  go_wp2_with fail
  refine (HDC.out y1 B1.out).mono ?_
  rintro e y2 ⟨lo, lc, rfl, hp, hb⟩
  obtain ⟨E, hE⟩ : ∃ E, chk h = E := ⟨_, rfl⟩
  have HE : Hid (chk h = E) := hE
  rw [hE] at hp ⊢
  obtain ⟨q, hq⟩ : ∃ q, y2.heap.size = q := ⟨_, rfl⟩
  obtain ⟨W3, hW3⟩ : ∃ W3, y2.alloc (.cells #[.int .i64 E.1, .slice lo E.2.length lc] 36) = W3 := ⟨_, rfl⟩
  have HW3 : Hid (y2.alloc (.cells #[.int .i64 E.1, .slice lo E.2.length lc] 36) = W3) := hW3
  have H3 : Hid (∀ wx, Below W3.heap.size W3 wx → wx.heap[q]? = some (.cells #[.int .i64 E.1, .slice lo E.2.length lc] 36) ∧ Below W0.heap.size W0 wx) := fun wx hx => by
    have g1 : W3.heap[q]? = some (.cells #[.int .i64 E.1, .slice lo E.2.length lc] 36) := by rw [← hW3, ← hq]; exact heap_newW _ _
    have g2 : Below y2.heap.size y2 W3 := by rw [← hW3]; exact (Below.refl _ _).alloc (Nat.le_refl _) _
    exact ⟨(hx.block _ (some_lt g1)).trans g1, btrU B1.out (btrU hb (btrU g2 hx))⟩
  clear hp hb hW3 c0 c1 c2 c3 c4 l0 hE
  go_upto_region 4 with fail
  rw [HW3.out]
  clear HW3 hq
  obtain ⟨⟨c0, c1, c2, c3, c4⟩, l0, _⟩ := HX.out W3 (H3.out W3 (Below.refl _ _)).2
  go_wp2_with fail
  refine (HFW.out W3).mono ?_
  rintro e y4 ⟨rfl, hb⟩
  have B4 : Hid (Below W3.heap.size W3 y4) := hb
  clear hb c0 c1 c2 c3 c4 l0
  cases fb with
  | false =>
    go_wp2
    go_ret
    exact ⟨rfl, (HX.out y4 (H3.out y4 B4.out).2).2.2.1⟩
  | true =>
    obtain ⟨q0, q1, _, _⟩ := cell_two (H3.out y4 B4.out).1
    go_wp2_with fail
    refine (Hi.bad_calls E.1 lo E.2.length lc y4).mono ?_
    rintro e y5 ⟨rfl, hb⟩
    rw [bad_iff]
    have B5 : Hid (Below W0.heap.size W0 y5) := (H3.out y5 (btrU B4.out hb)).2
    clear hb q0 q1 B4 H3
    by_cases hc : E = (0, [])
    · subst hc
      have hc : chk h = (0, []) := HE.out
      obtain ⟨k1, k2, k3, k4, k5, k6, _, _⟩ := chk_ok hc
      have HC : Hid (chk h = (0, []) ∧ (stds h).length = h.up.length + h.dn.length) := ⟨hc, stds_len k5 k6⟩
      obtain ⟨C, hC⟩ : ∃ C, (stds h).length = C := ⟨_, rfl⟩
      have HCC : Hid ((stds h).length = C) := hC
      have hCb : C ≤ 1048576 := by rw [← hC, stds_len k5 k6]; exact k2
      have HAR : Hid (∀ wx, HasH wx v h → Calls Tryz.prog 24 #[(.agg #[.slice v.no h.node.length v.nc, .slice v.uo h.upF.length v.uc, .slice v.ul h.up.length v.ulc, .slice v.wo h.dnF.length v.wc, .slice v.dl h.dn.length v.dlc])] wx fun e w' => ∃ mo mc, e = .returned (.slice mo C mc) ∧ HasEs w' (.slice mo (stds h).length mc) h ∧ Below wx.heap.size wx w') := fun wx hH => by
        have g := arcsR_calls v h wx hH k5 k6 (by omega) (by omega) k2
        rw [hC] at g
        refine g.mono ?_
        rintro e w' ⟨mo, mc, e1, g2, g3⟩
        exact ⟨mo, mc, e1, by rw [hC]; exact g2, g3⟩
      have hnl : h.node.length ≤ 65536 := k1
      clear k1 k2 k3 k4 k5 k6 hc hC
      obtain ⟨⟨c0, c1, c2, c3, c4⟩, l0, _⟩ := HX.out y5 B5.out
      go_wp2_with fail
      refine (HAR.out y5 (HX.out y5 B5.out).2.2.2.1).mono ?_
      rintro e X0 ⟨eo, ec, rfl, hes, hb⟩
      have HX0 : Hid (∀ wx, Below X0.heap.size X0 wx → Below W0.heap.size W0 wx ∧ HasEs wx (.slice eo (stds h).length ec) h) := fun wx hx => ⟨btrU B5.out (btrU hb hx), hes.keep hx⟩
      clear hes hb c0 c1 c2 c3 c4 l0
      go_wp2_with fail
      go_loopw [30] (fun iv wr => ∃ k : Nat, k ≤ C ∧ iv = .int .i64 k ∧ Hid (Below X0.heap.size X0 wr)) (fun iv _ => C - (intOf iv).toNat)
      case atStart => exact ⟨0, Nat.zero_le _, rfl, Below.refl _ _⟩
      case round =>
        obtain ⟨k, hk, rfl, HB⟩ := hrel
        rcases Nat.lt_or_eq_of_le hk with h1 | h1
        · have hks : k < (stds h).length := by rw [HCC.out]; exact h1
          obtain ⟨eb, heo, ⟨e0, e1, e2⟩, el⟩ := (HX0.out wr HB.out).2.at hks
          subst heo
          have HEC : Hid (∀ wx, Below X0.heap.size X0 wx → ∀ j, j < (stds h).length → wx.cell? ⟨eb, j * 3, none⟩ = some (.int .i64 ((lkO h j).tail : Int)) ∧ wx.cell? ⟨eb, j * 3 + 1, none⟩ = some (.int .i64 ((lkO h j).head : Int)) ∧ eb < wx.heap.size) := fun wx hx j hj => by
            obtain ⟨b2, e2, ⟨g0, g1, _⟩, hl⟩ := (HX0.out wx hx).2.at hj
            injection e2 with e2
            injection e2 with e2 _ _
            rw [e2]
            exact ⟨g0, g1, hl⟩
          have hst := stood HC.out.1 hks
          obtain ⟨F, hF⟩ : ∃ F, flatI h k = F := ⟨_, rfl⟩
          obtain ⟨R, hR⟩ : ∃ R, alR h (lkO h k).tail F = R := ⟨_, rfl⟩
          rw [hF, hR] at hst
          have HST : Hid (Stood h k F R) := hst
          obtain ⟨tl, htl⟩ : ∃ tl, (lkO h k).tail = tl := ⟨_, rfl⟩
          obtain ⟨hl, hhl⟩ : ∃ hl, (lkO h k).head = hl := ⟨_, rfl⟩
          obtain ⟨rk, hrk⟩ : ∃ rk, (lkO h k).rk = rk := ⟨_, rfl⟩
          have e0' : wr.cell? ⟨eb, k * 3, none⟩ = some (.int .i64 (tl : Int)) := by rw [← htl]; exact e0
          have e1' : wr.cell? ⟨eb, k * 3 + 1, none⟩ = some (.int .i64 (hl : Int)) := by rw [← hhl]; exact e1
          have e2' : wr.cell? ⟨eb, k * 3 + 2, none⟩ = some (.int .i64 (rk : Int)) := by rw [← hrk]; exact e2
          have HTH : Hid ((lkO h k).tail = tl ∧ (lkO h k).head = hl ∧ tl < h.node.length ∧ hl < h.node.length) := ⟨htl, hhl, by rw [← htl]; exact (head_lt HC.out.1 hks).2, by rw [← hhl]; exact (head_lt HC.out.1 hks).1⟩
          have HKS : Hid (k < (stds h).length ∧ k < h.up.length + h.dn.length) := ⟨hks, by rw [← HC.out.2]; exact hks⟩
          obtain ⟨_, nb, noff, hno, _, _⟩ := ws_get (HX.out wr (HX0.out wr HB.out).1).2.2.2.1.node (nth_get HTH.out.2.2.1)
          have HNO : Hid (v.no = some ⟨nb, noff, none⟩) := hno
          have HNC : Hid (∀ wx, Below X0.heap.size X0 wx → ∀ r, r < h.node.length → nth h.node r < 4294967296 ∧ wx.cell? ⟨nb, noff + r, none⟩ = some (.int .u32 (nth h.node r : Int)) ∧ nb < wx.heap.size) := fun wx hx r hr => by
            obtain ⟨g0, b2, o2, e2, hl, g1⟩ := ws_get (HX.out wx (HX0.out wx hx).1).2.2.2.1.node (nth_get hr)
            rw [hno] at e2
            injection e2 with e2
            injection e2 with e2 e3 _
            rw [e2, e3]
            exact ⟨g0, g1, hl⟩
          have hEL : lkL h (k : Int) = [] ∨ lkL h (k : Int) = F := by
            by_cases he : lkE h (k : Int) = (0, [])
            · exact Or.inr (by rw [lkL_ok he, hF])
            · exact Or.inl (lkL_bad he)
          obtain ⟨p, hp⟩ : ∃ p, wr.heap.size = p := ⟨_, rfl⟩
          obtain ⟨W7, hW7⟩ : ∃ W7, wr.alloc (.cells #[.int .i64 (tl : Int), .int .i64 (hl : Int), .int .i64 (rk : Int)] 59) = W7 := ⟨_, rfl⟩
          have HW7 : Hid (wr.alloc (.cells #[.int .i64 (tl : Int), .int .i64 (hl : Int), .int .i64 (rk : Int)] 59) = W7) := hW7
          have H7 : Hid (∀ wx, Below W7.heap.size W7 wx → wx.heap[p]? = some (.cells #[.int .i64 (tl : Int), .int .i64 (hl : Int), .int .i64 (rk : Int)] 59) ∧ Below X0.heap.size X0 wx) := fun wx hx => by
            have g1 : W7.heap[p]? = some (.cells #[.int .i64 (tl : Int), .int .i64 (hl : Int), .int .i64 (rk : Int)] 59) := by rw [← hW7, ← hp]; exact heap_newW _ _
            have g2 : Below wr.heap.size wr W7 := by rw [← hW7]; exact (Below.refl _ _).alloc (Nat.le_refl _) _
            exact ⟨(hx.block _ (some_lt g1)).trans g1, btrU HB.out (btrU g2 hx)⟩
          have i1 : (0 : Int) ≤ (k : Int) := by omega
          have i2 : (k : Int) < (C : Int) := by omega
          have q6 : decide ((k : Int) < (C : Int)) = true := by simp; omega
          clear e0 e1 e2 hst htl hhl hrk hks hW7 hEL hno
          go_upto_region 10 with fail
          rw [HW7.out]
          clear HW7 e0' e1' e2' el hp
          obtain ⟨⟨c0, c1, c2, c3, c4⟩, l0, _⟩ := HX.out W7 (HX0.out W7 (H7.out W7 (Below.refl _ _)).2).1
          have HL7 : Hid (type_of% (HLK.out W7 (k : Int) (HX.out W7 (HX0.out W7 (H7.out W7 (Below.refl _ _)).2).1).2.2.2.1)) := HLK.out W7 (k : Int) (HX.out W7 (HX0.out W7 (H7.out W7 (Below.refl _ _)).2).1).2.2.2.1
          by_cases hle : F.length ≤ 131072
          · have heE : lkE h (k : Int) = (0, []) := lkE_ok HC.out.1 HKS.out.2 (by rw [hF]; exact hle)
            have hLL : lkL h (k : Int) = F := by rw [lkL_ok heE, hF]
            have hNN : lkN h (k : Int) = ndR h R := by rw [lkN_ok heE, hF, hR]
            have hNl : (ndR h R).length = F.length + 1 := by rw [ndR_len]; exact HST.out.len
            rw [heE, hLL, hNN] at HL7
            have HLK8 : Hid (∀ wx, HasH wx v h → Calls Tryz.prog 15 #[(.agg #[.slice v.no h.node.length v.nc, .slice v.uo h.upF.length v.uc, .slice v.ul h.up.length v.ulc, .slice v.wo h.dnF.length v.wc, .slice v.dl h.dn.length v.dlc]), .int .i64 (k : Int)] wx (LkA wx (0, []) (ndR h R))) := fun wx hu => by
              have g := (HLK.out wx (k : Int) hu).2
              rw [heE, hNN] at g
              exact g
            have HNL : Hid ((ndR h R).length = F.length + 1) := hNl
            clear heE hLL hNN hNl hF hR
            go_wp2_with fail
            refine HL7.out.1.mono ?_
            rintro e y8 ⟨lo1, lc1, g8, rfl, ht, hg⟩
            have hu := isTold_nil ht
            subst hu
            have H8 : Hid (∀ wx, Below y8.heap.size y8 wx → wx.ownsRow W7.heap.size 3 1 (.slice lo1 F.length lc1) F.length (iv (zs F)) ∧ Below W7.heap.size W7 wx) := fun wx hx => ⟨(hg.up hx).own, btrU hg.bel hx⟩
            clear ht hg c0 c1 c2 c3 c4 l0
            obtain ⟨⟨c0, c1, c2, c3, c4⟩, l0, _⟩ := HX.out y8 (HX0.out y8 (H7.out y8 (H8.out y8 (Below.refl _ _)).2).2).1
            go_wp2_with fail
            refine (HLK8.out y8 (HX.out y8 (HX0.out y8 (H7.out y8 (H8.out y8 (Below.refl _ _)).2).2).1).2.2.2.1).mono ?_
            rintro e y9 ⟨mo, mc, g9, rfl, ht, hg⟩
            have hu := isTold_nil ht
            subst hu
            have hgo := hg.own
            rw [HNL.out] at hgo ⊢
            have H9 : Hid (∀ wx, Below y9.heap.size y9 wx → wx.ownsRow y8.heap.size 3 1 (.slice mo (F.length + 1) mc) (F.length + 1) (iv (zs (ndR h R))) ∧ Below y8.heap.size y8 wx) := fun wx hx => ⟨iown_keep hgo fun k hk => hx.block k (hgo.lt k hk).2, btrU hg.bel hx⟩
            clear ht hg hgo c0 c1 c2 c3 c4 l0 HLK8 HL7
            go_wp2_with fail
            refine (E_calls 2 y9).mono ?_
            rintro e y10 ⟨rfl, hb⟩
            have B10 : Hid (Below y9.heap.size y9 y10) := hb
            clear hb
            go_wp2_with fail
            refine (seen_nilBad 2 (by decide) y10).mono ?_
            rintro e y11 ⟨rfl, hb⟩
            have H11 : Hid (∀ wx, Below y11.heap.size y11 wx → wx.ownsRow y8.heap.size 3 1 (.slice mo (F.length + 1) mc) (F.length + 1) (iv (zs (ndR h R))) ∧ wx.ownsRow W7.heap.size 3 1 (.slice lo1 F.length lc1) F.length (iv (zs F)) ∧ wx.heap[p]? = some (.cells #[.int .i64 (tl : Int), .int .i64 (hl : Int), .int .i64 (rk : Int)] 59) ∧ Below X0.heap.size X0 wx) := fun wx hx => by
              have b9 := btrU B10.out (btrU hb hx)
              obtain ⟨a1, a2⟩ := H9.out wx b9
              obtain ⟨a3, a4⟩ := H8.out wx a2
              obtain ⟨a5, a6⟩ := H7.out wx a4
              exact ⟨a1, a3, a5, a6⟩
            clear hb
            have hFp : 0 < F.length := HST.out.ne
            obtain ⟨gm, mcap, hga, _, _, _, _⟩ := iown_at (H11.out y11 (Below.refl _ _)).1 (by omega)
            injection hga with hga1 hga2 hga3
            subst hga1 hga3
            clear hga2
            have HMC : Hid (∀ wx, Below y11.heap.size y11 wx → ∀ j r : Nat, R[j]? = some r → wx.cell? ⟨gm, j, none⟩ = some (.int .i64 (nth h.node r : Int)) ∧ gm < wx.heap.size) := fun wx hx j r hj => by
              obtain ⟨g2, cap2, e2, _, hl2, _, hc2⟩ := iown_at (H11.out wx hx).1 (by omega)
              injection e2 with e3 _ _
              injection e3 with e3
              injection e3 with e3 _ _
              rw [e3]
              exact ⟨hc2 j _ (ndR_at hj), hl2⟩
            obtain ⟨gf, fcap, hga, _, _, _, _⟩ := iown_at (H11.out y11 (Below.refl _ _)).2.1 (by omega)
            injection hga with hga1 hga2 hga3
            subst hga1 hga3
            clear hga2
            have HGC : Hid (∀ wx, Below y11.heap.size y11 wx → ∀ j a : Nat, F[j]? = some a → wx.cell? ⟨gf, j, none⟩ = some (.int .i64 (a : Int)) ∧ gf < wx.heap.size) := fun wx hx j a hj => by
              obtain ⟨g2, cap2, e2, _, hl2, _, hc2⟩ := iown_at (H11.out wx hx).2.1 (by have := (List.getElem?_eq_some_iff.1 hj).1; omega)
              injection e2 with e3 _ _
              injection e3 with e3
              injection e3 with e3 _ _
              rw [e3]
              exact ⟨hc2 j a hj, hl2⟩
            obtain ⟨tn, htn⟩ : ∃ tn, nth h.node tl = tn := ⟨_, rfl⟩
            obtain ⟨hn, hhn⟩ : ∃ hn, nth h.node hl = hn := ⟨_, rfl⟩
            have r11 := H11.out y11 (Below.refl _ _)
            have m0 : y11.cell? ⟨gm, 0, none⟩ = some (.int .i64 (tn : Int)) := by
              have g := (HMC.out y11 (Below.refl _ _) 0 _ HST.out.st).1
              rw [HTH.out.1, htn] at g
              exact g
            have m1 : y11.cell? ⟨gm, F.length, none⟩ = some (.int .i64 (hn : Int)) := by
              have g := (HMC.out y11 (Below.refl _ _) F.length _ HST.out.en).1
              rw [HTH.out.2.1, hhn] at g
              exact g
            have n0 : y11.cell? ⟨nb, noff + tl, none⟩ = some (.int .u32 (tn : Int)) := by rw [← htn]; exact (HNC.out y11 r11.2.2.2 tl HTH.out.2.2.1).2.1
            have n1 : y11.cell? ⟨nb, noff + hl, none⟩ = some (.int .u32 (hn : Int)) := by rw [← hhn]; exact (HNC.out y11 r11.2.2.2 hl HTH.out.2.2.2).2.1
            have tn1 : tn < 4294967296 := by rw [← htn]; exact (HNC.out y11 r11.2.2.2 tl HTH.out.2.2.1).1
            have hn1 : hn < 4294967296 := by rw [← hhn]; exact (HNC.out y11 r11.2.2.2 hl HTH.out.2.2.2).1
            have p0 : y11.cell? ⟨p, 0, none⟩ = some (.int .i64 (tl : Int)) := by simp [World.cell?, r11.2.2.1]
            have p1 : y11.cell? ⟨p, 1, none⟩ = some (.int .i64 (hl : Int)) := by simp [World.cell?, r11.2.2.1]
            have pl : p < y11.heap.size := some_lt r11.2.2.1
            obtain ⟨⟨c0, _, _, _, _⟩, l0, _⟩ := HX.out y11 (HX0.out y11 r11.2.2.2).1
            rw [HNO.out] at c0
            have w1 : IntKind.i64.wrap (tn : Int) = (tn : Int) := by rw [IntKind.wrap_i64] <;> omega
            have w2 : IntKind.i64.wrap (hn : Int) = (hn : Int) := by rw [IntKind.wrap_i64] <;> omega
            have w3 : IntKind.i64.wrap ((F.length : Int) + 1) = (F.length : Int) + 1 := by rw [IntKind.wrap_i64] <;> omega
            have t1 : (0 : Int) ≤ (tl : Int) := by omega
            have t2 : (tl : Int) < (h.node.length : Int) := by have := HTH.out.2.2.1; omega
            have t3 : (0 : Int) ≤ (hl : Int) := by omega
            have t4 : (hl : Int) < (h.node.length : Int) := by have := HTH.out.2.2.2; omega
            have f1 : (0 : Int) < (F.length : Int) + 1 := by omega
            have f2 : (F.length : Int) < (F.length : Int) + 1 := by omega
            have f3 : (0 : Int) ≤ (F.length : Int) := by omega
            have f4 : ((F.length : Int) == 0) = false := beq_eq_false_iff_ne.2 (by omega)
            have f5 : decide ((F.length : Int) > 131072) = false := by simp; omega
            clear r11 htn hhn
            go_upto_region 13 with fail
            go_quiet (fail)
            clear m0 m1 n0 n1 c0 w1 w2 w3 t1 t2 t3 t4 f1 f2 f4 f5
            by_cases h100 : 100 < F.length
            · have f6 : decide ((F.length : Int) > 100) = true := by simp; omega
              go_wp2_with fail
              go_roundw
              case rel => exact ⟨k + 1, by omega, by rw [show (k : Int) + 1 = ((k + 1 : Nat) : Int) by omega], (H11.out _ (show Below y11.heap.size y11 (y11.drewN _) from ⟨rfl, rfl, rfl, Nat.le_refl _, fun _ _ => rfl⟩)).2.2.2⟩
              case measure => simp only [intOf]; omega
            · have f6 : decide ((F.length : Int) > 100) = false := by simp; omega
              have HT0 : Hid (R[0]? = some tl) := by have g := HST.out.st; rw [HTH.out.1] at g; exact g
              go_upto_region 16 with fail
              go_quiet (fail)
              clear p0 p1 pl
              go_wp2_with fail
              go_loopw [11, 12, 109] (fun sv av nv wq => ∃ (t a : Nat), t ≤ F.length ∧ nv = .int .i64 t ∧ sv = .int .u64 ((wtS h (F.take t) : Nat) : Int) ∧ R[t]? = some a ∧ av = .int .i64 a ∧ Hid (Below y11.heap.size y11 wq)) (fun _ _ nv _ => F.length - (intOf nv).toNat)
              case atStart => exact ⟨0, tl, Nat.zero_le _, rfl, rfl, HT0.out, rfl, (show Below y11.heap.size y11 (y11.drewN _) from ⟨rfl, rfl, rfl, Nat.le_refl _, fun _ _ => rfl⟩)⟩
              case round =>
                obtain ⟨t, a, ht, rfl, rfl, hRa, rfl, HBS⟩ := hrel
                rcases Nat.lt_or_eq_of_le ht with ht1 | ht1
                · obtain ⟨j, hj⟩ : ∃ j, F[t]? = some j := ⟨_, List.getElem?_eq_getElem ht1⟩
                  obtain ⟨hjs, hpl, hta, hhd0⟩ := HST.out.at_ t j hj
                  obtain ⟨hd, hhd⟩ : ∃ hd, (lkO h j).head = hd := ⟨_, rfl⟩
                  have hae : (lkO h j).tail = a := by rw [hRa] at hta; exact (Option.some.inj hta).symm
                  rw [hhd] at hhd0
                  have ha : a < h.node.length := HST.out.lt t a hRa
                  have hdl : hd < h.node.length := HST.out.lt _ _ hhd0
                  obtain ⟨an, han⟩ : ∃ an, nth h.node a = an := ⟨_, rfl⟩
                  obtain ⟨hn2, hhn2⟩ : ∃ hn2, nth h.node hd = hn2 := ⟨_, rfl⟩
                  obtain ⟨l, hll⟩ : ∃ l, linkAt h j = l := ⟨_, rfl⟩
                  have hlk : (lkO h j).lk = l := by rw [← hll]; exact (link_ok HC.out.1 hjs).lk.symm
                  have hpl2 : l.plain = true := by rw [← hlk]; exact hpl
                  have HSS : Hid (∀ wx, Below y11.heap.size y11 wx → (fun w' : World => w'.cell? ⟨z, 0, none⟩ = some (.slice (some ⟨nb, noff, none⟩) h.node.length v.nc) ∧ w'.cell? ⟨z, 1, none⟩ = some (.slice v.uo h.upF.length v.uc) ∧ w'.cell? ⟨z, 2, none⟩ = some (.slice v.ul h.up.length v.ulc) ∧ w'.cell? ⟨z, 3, none⟩ = some (.slice v.wo h.dnF.length v.wc) ∧ w'.cell? ⟨z, 4, none⟩ = some (.slice v.dl h.dn.length v.dlc) ∧ w'.cell? ⟨eb, j * 3, none⟩ = some (.int .i64 (a : Int)) ∧ w'.cell? ⟨eb, j * 3 + 1, none⟩ = some (.int .i64 (hd : Int)) ∧ w'.cell? ⟨gm, t, none⟩ = some (.int .i64 (an : Int)) ∧ w'.cell? ⟨gm, t + 1, none⟩ = some (.int .i64 (hn2 : Int)) ∧ w'.cell? ⟨nb, noff + a, none⟩ = some (.int .u32 (an : Int)) ∧ w'.cell? ⟨nb, noff + hd, none⟩ = some (.int .u32 (hn2 : Int)) ∧ Hid (Below y11.heap.size y11 w')) wx) := fun wx hx => by
                    have r := H11.out wx hx
                    obtain ⟨⟨a0, a1, a2, a3, a4⟩, _⟩ := HX.out wx (HX0.out wx r.2.2.2).1
                    rw [HNO.out] at a0
                    have b := HEC.out wx r.2.2.2 j hjs
                    rw [hae, hhd] at b
                    have m0 := (HMC.out wx hx t a hRa).1
                    have m1 := (HMC.out wx hx (t + 1) hd hhd0).1
                    have n0 := (HNC.out wx r.2.2.2 a ha).2.1
                    have n1 := (HNC.out wx r.2.2.2 hd hdl).2.1
                    rw [han] at m0 n0
                    rw [hhn2] at m1 n1
                    exact ⟨a0, a1, a2, a3, a4, b.1, b.2.1, m0, m1, n0, n1, hx⟩
                  have HLKX : Hid (∀ wx : World, Below y11.heap.size y11 wx → Calls Tryz.prog 27 #[(.agg #[.slice (some ⟨nb, noff, none⟩) h.node.length v.nc, .slice v.uo h.upF.length v.uc, .slice v.ul h.up.length v.ulc, .slice v.wo h.dnF.length v.wc, .slice v.dl h.dn.length v.dlc]), .int .i64 (j : Int)] wx fun e w' => e = .returned (.agg #[.int .u32 (l.hd : Int), .int .u64 (l.wt : Int), .int .u32 (l.lf : Int), .int .u32 (l.rt : Int)]) ∧ Below wx.heap.size wx w') := fun wx hx => by
                    have r := H11.out wx hx
                    have g := HTL.out wx j (HX.out wx (HX0.out wx r.2.2.2).1).2.2.2.1 (by rw [← HC.out.2]; exact hjs)
                    rw [hll, HNO.out] at g
                    exact g
                  have HLKJ : Hid (∀ wx : World, (fun w' : World => w'.cell? ⟨z, 0, none⟩ = some (.slice (some ⟨nb, noff, none⟩) h.node.length v.nc) ∧ w'.cell? ⟨z, 1, none⟩ = some (.slice v.uo h.upF.length v.uc) ∧ w'.cell? ⟨z, 2, none⟩ = some (.slice v.ul h.up.length v.ulc) ∧ w'.cell? ⟨z, 3, none⟩ = some (.slice v.wo h.dnF.length v.wc) ∧ w'.cell? ⟨z, 4, none⟩ = some (.slice v.dl h.dn.length v.dlc) ∧ w'.cell? ⟨eb, j * 3, none⟩ = some (.int .i64 (a : Int)) ∧ w'.cell? ⟨eb, j * 3 + 1, none⟩ = some (.int .i64 (hd : Int)) ∧ w'.cell? ⟨gm, t, none⟩ = some (.int .i64 (an : Int)) ∧ w'.cell? ⟨gm, t + 1, none⟩ = some (.int .i64 (hn2 : Int)) ∧ w'.cell? ⟨nb, noff + a, none⟩ = some (.int .u32 (an : Int)) ∧ w'.cell? ⟨nb, noff + hd, none⟩ = some (.int .u32 (hn2 : Int)) ∧ Hid (Below y11.heap.size y11 w')) wx → Calls Tryz.prog 27 #[(.agg #[.slice (some ⟨nb, noff, none⟩) h.node.length v.nc, .slice v.uo h.upF.length v.uc, .slice v.ul h.up.length v.ulc, .slice v.wo h.dnF.length v.wc, .slice v.dl h.dn.length v.dlc]), .int .i64 (j : Int)] wx fun e w' => e = .returned (.agg #[.int .u32 (l.hd : Int), .int .u64 (l.wt : Int), .int .u32 (l.lf : Int), .int .u32 (l.rt : Int)]) ∧ Grows wx w' ∧ (fun w' : World => w'.cell? ⟨z, 0, none⟩ = some (.slice (some ⟨nb, noff, none⟩) h.node.length v.nc) ∧ w'.cell? ⟨z, 1, none⟩ = some (.slice v.uo h.upF.length v.uc) ∧ w'.cell? ⟨z, 2, none⟩ = some (.slice v.ul h.up.length v.ulc) ∧ w'.cell? ⟨z, 3, none⟩ = some (.slice v.wo h.dnF.length v.wc) ∧ w'.cell? ⟨z, 4, none⟩ = some (.slice v.dl h.dn.length v.dlc) ∧ w'.cell? ⟨eb, j * 3, none⟩ = some (.int .i64 (a : Int)) ∧ w'.cell? ⟨eb, j * 3 + 1, none⟩ = some (.int .i64 (hd : Int)) ∧ w'.cell? ⟨gm, t, none⟩ = some (.int .i64 (an : Int)) ∧ w'.cell? ⟨gm, t + 1, none⟩ = some (.int .i64 (hn2 : Int)) ∧ w'.cell? ⟨nb, noff + a, none⟩ = some (.int .u32 (an : Int)) ∧ w'.cell? ⟨nb, noff + hd, none⟩ = some (.int .u32 (hn2 : Int)) ∧ Hid (Below y11.heap.size y11 w')) w') := fun wx hS => by
                    have hx : Below y11.heap.size y11 wx := hS.2.2.2.2.2.2.2.2.2.2.2.out
                    exact (HLKX.out wx hx).mono (by rintro e w' ⟨rfl, hb⟩; exact ⟨rfl, hb, HSS.out w' (btrU hx hb)⟩)
                  have HPLJ : Hid (∀ wx : World, (fun w' : World => w'.cell? ⟨z, 0, none⟩ = some (.slice (some ⟨nb, noff, none⟩) h.node.length v.nc) ∧ w'.cell? ⟨z, 1, none⟩ = some (.slice v.uo h.upF.length v.uc) ∧ w'.cell? ⟨z, 2, none⟩ = some (.slice v.ul h.up.length v.ulc) ∧ w'.cell? ⟨z, 3, none⟩ = some (.slice v.wo h.dnF.length v.wc) ∧ w'.cell? ⟨z, 4, none⟩ = some (.slice v.dl h.dn.length v.dlc) ∧ w'.cell? ⟨eb, j * 3, none⟩ = some (.int .i64 (a : Int)) ∧ w'.cell? ⟨eb, j * 3 + 1, none⟩ = some (.int .i64 (hd : Int)) ∧ w'.cell? ⟨gm, t, none⟩ = some (.int .i64 (an : Int)) ∧ w'.cell? ⟨gm, t + 1, none⟩ = some (.int .i64 (hn2 : Int)) ∧ w'.cell? ⟨nb, noff + a, none⟩ = some (.int .u32 (an : Int)) ∧ w'.cell? ⟨nb, noff + hd, none⟩ = some (.int .u32 (hn2 : Int)) ∧ Hid (Below y11.heap.size y11 w')) wx → Calls Tryz.prog 26 #[(.agg #[.int .u32 (l.hd : Int), .int .u64 (l.wt : Int), .int .u32 (l.lf : Int), .int .u32 (l.rt : Int)])] wx fun e w' => e = .returned (.bool true) ∧ Grows wx w' ∧ (fun w' : World => w'.cell? ⟨z, 0, none⟩ = some (.slice (some ⟨nb, noff, none⟩) h.node.length v.nc) ∧ w'.cell? ⟨z, 1, none⟩ = some (.slice v.uo h.upF.length v.uc) ∧ w'.cell? ⟨z, 2, none⟩ = some (.slice v.ul h.up.length v.ulc) ∧ w'.cell? ⟨z, 3, none⟩ = some (.slice v.wo h.dnF.length v.wc) ∧ w'.cell? ⟨z, 4, none⟩ = some (.slice v.dl h.dn.length v.dlc) ∧ w'.cell? ⟨eb, j * 3, none⟩ = some (.int .i64 (a : Int)) ∧ w'.cell? ⟨eb, j * 3 + 1, none⟩ = some (.int .i64 (hd : Int)) ∧ w'.cell? ⟨gm, t, none⟩ = some (.int .i64 (an : Int)) ∧ w'.cell? ⟨gm, t + 1, none⟩ = some (.int .i64 (hn2 : Int)) ∧ w'.cell? ⟨nb, noff + a, none⟩ = some (.int .u32 (an : Int)) ∧ w'.cell? ⟨nb, noff + hd, none⟩ = some (.int .u32 (hn2 : Int)) ∧ Hid (Below y11.heap.size y11 w')) w') := fun wx hS => by
                    have hx : Below y11.heap.size y11 wx := hS.2.2.2.2.2.2.2.2.2.2.2.out
                    have g := tplain_calls l wx
                    rw [hpl2] at g
                    exact g.mono (by rintro e w' ⟨rfl, hb⟩; exact ⟨rfl, hb, HSS.out w' (btrU hx hb)⟩)
                  have HSUM : Hid (IntKind.u64.wrap (((wtS h (F.take t) : Nat) : Int) + (l.wt : Int)) = ((wtS h (F.take (t + 1)) : Nat) : Int)) := by
                    have e1 : wtS h (F.take (t + 1)) = wtS h (F.take t) + l.wt := by rw [take_snocU hj, wtS_append, wtS_one, hlk]
                    have e2 := wtS_take h F (t + 1)
                    have e3 := HST.out.wt
                    have e4 := HST.out.few
                    show _ = _
                    rw [IntKind.wrap_u64, Int.emod_eq_of_lt (by omega) (by omega), e1]
                    omega
                  have f0 := (HGC.out wr HBS.out t j hj).1
                  have f0l := (HGC.out wr HBS.out t j hj).2
                  have an1 : an < 4294967296 := by rw [← han]; exact (HNC.out wr (H11.out wr HBS.out).2.2.2 a ha).1
                  have hn3 : hn2 < 4294967296 := by rw [← hhn2]; exact (HNC.out wr (H11.out wr HBS.out).2.2.2 hd hdl).1
                  have HHD : Hid (R[t + 1]? = some hd) := hhd0
                  have HEH : Hid (∀ wx, Below y11.heap.size y11 wx → wx.cell? ⟨eb, j * 3 + 1, none⟩ = some (.int .i64 (hd : Int)) ∧ eb < wx.heap.size) := fun wx hx => by
                    have b := (HEC.out wx (H11.out wx hx).2.2.2 j hjs).2
                    rw [hhd] at b
                    exact b
                  have s1 : (0 : Int) ≤ (t : Int) := by omega
                  have s2 : (t : Int) < (F.length : Int) := by omega
                  have s3 : decide ((t : Int) < (F.length : Int)) = true := by simp; omega
                  have j1 : decide ((j : Int) < 0) = false := by simp
                  have j2 : decide ((j : Int) ≥ (C : Int)) = false := by have := HCC.out; simp; omega
                  have j2' : decide ((C : Int) ≤ (j : Int)) = false := by have := HCC.out; simp; omega
                  have j5 : decide (C ≤ j) = false := by have := HCC.out; simp; omega
                  have j3 : (0 : Int) ≤ (j : Int) := by omega
                  have j4 : (j : Int) < (C : Int) := by have := HCC.out; omega
                  have s4 : (t : Int) < (F.length : Int) + 1 := by omega
                  have s5 : IntKind.i64.wrap ((t : Int) + 1) = (t : Int) + 1 := by rw [IntKind.wrap_i64] <;> omega
                  have s6 : (t : Int) + 1 < (F.length : Int) + 1 := by omega
                  have s7 : (0 : Int) ≤ (t : Int) + 1 := by omega
                  have a1 : (0 : Int) ≤ (a : Int) := by omega
                  have a2 : (a : Int) < (h.node.length : Int) := by omega
                  have d1 : (0 : Int) ≤ (hd : Int) := by omega
                  have d2 : (hd : Int) < (h.node.length : Int) := by omega
                  have w1 : IntKind.i64.wrap (an : Int) = (an : Int) := by rw [IntKind.wrap_i64] <;> omega
                  have w2 : IntKind.i64.wrap (hn2 : Int) = (hn2 : Int) := by rw [IntKind.wrap_i64] <;> omega
                  clear hpl hta hhd0 hae han hhn2 hll hlk hpl2 hj hRa ha hdl hhd
                  go_upto_region 20 with fail
                  clear f0 f0l s1 s2 s3
                  refine wp_region_M (S := (fun w' : World => w'.cell? ⟨z, 0, none⟩ = some (.slice (some ⟨nb, noff, none⟩) h.node.length v.nc) ∧ w'.cell? ⟨z, 1, none⟩ = some (.slice v.uo h.upF.length v.uc) ∧ w'.cell? ⟨z, 2, none⟩ = some (.slice v.ul h.up.length v.ulc) ∧ w'.cell? ⟨z, 3, none⟩ = some (.slice v.wo h.dnF.length v.wc) ∧ w'.cell? ⟨z, 4, none⟩ = some (.slice v.dl h.dn.length v.dlc) ∧ w'.cell? ⟨eb, j * 3, none⟩ = some (.int .i64 (a : Int)) ∧ w'.cell? ⟨eb, j * 3 + 1, none⟩ = some (.int .i64 (hd : Int)) ∧ w'.cell? ⟨gm, t, none⟩ = some (.int .i64 (an : Int)) ∧ w'.cell? ⟨gm, t + 1, none⟩ = some (.int .i64 (hn2 : Int)) ∧ w'.cell? ⟨nb, noff + a, none⟩ = some (.int .u32 (an : Int)) ∧ w'.cell? ⟨nb, noff + hd, none⟩ = some (.int .u32 (hn2 : Int)) ∧ Hid (Below y11.heap.size y11 w'))) (by kernel_rfl) (HSS.out _ (by first | exact HBS.out | exact btrU HBS.out (Below.refl _ _).drew)) ?_
                  refine wpAnyM_take (i := 0) (oi := ⟨some 114, .move (.tmp 14), 3, "law.go:93", #[], none⟩) (v := ?va1z0) rfl (by kernel_rfl) (by kernel_rfl) (by kernel_rfl) (fun _ _ _ h => h) (YieldsM.of_if (Or.inl ⟨by rfl, ?ha1z0⟩)) ?ra1z0
                  case ha1z0 => ((intro wz hSw; (try dsimp only at hSw); go_simp); try (with_reducible rfl))
                  try simp only [Act.put, List.setIfInBounds_toArray, List.set_cons_zero, List.set_cons_succ]
                  refine wpAnyM_take (i := 1) (oi := ⟨some 115, .binOp .lss 3 (.tmp 114) (.const (.int .i64 0)) 3, 4, "law.go:93", #[⟨0, .data⟩], none⟩) (v := ?va2z1) rfl (by kernel_rfl) (by kernel_rfl) (by kernel_rfl) (fun _ _ _ h => h) (YieldsM.of_if (Or.inl ⟨by rfl, ?ha2z1⟩)) ?ra2z1
                  case ha2z1 => ((intro wz hSw; (try dsimp only at hSw); go_simp); try (with_reducible rfl))
                  try simp only [Act.put, List.setIfInBounds_toArray, List.set_cons_zero, List.set_cons_succ]
                  refine wpAnyM_take (i := 2) (oi := ⟨some 116, .move (.tmp 115), 4, "law.go:93", #[⟨1, .data⟩], none⟩) (v := ?va3z2) rfl (by kernel_rfl) (by kernel_rfl) (by kernel_rfl) (fun _ _ _ h => h) (YieldsM.of_if (Or.inl ⟨by rfl, ?ha3z2⟩)) ?ra3z2
                  case ha3z2 => ((intro wz hSw; (try dsimp only at hSw); go_simp); try (with_reducible rfl))
                  try simp only [Act.put, List.setIfInBounds_toArray, List.set_cons_zero, List.set_cons_succ]
                  refine wpAnyM_take (i := 3) (oi := ⟨some 117, .move (.tmp 14), 3, "law.go:93", #[⟨2, .guard⟩], some (2, Bool.false)⟩) (v := ?va4z3) rfl (by kernel_rfl) (by kernel_rfl) (by kernel_rfl) (fun _ _ _ h => h) (YieldsM.of_if (Or.inl ⟨by rfl, ?ha4z3⟩)) ?ra4z3
                  case ha4z3 => ((intro wz hSw; (try dsimp only at hSw); go_simp); try (with_reducible rfl))
                  try simp only [Act.put, List.setIfInBounds_toArray, List.set_cons_zero, List.set_cons_succ]
                  refine wpAnyM_take (i := 4) (oi := ⟨some 118, .move (.tmp 4), 56, "law.go:93", #[⟨2, .guard⟩], some (2, Bool.false)⟩) (v := ?va5z4) rfl (by kernel_rfl) (by kernel_rfl) (by kernel_rfl) (fun _ _ _ h => h) (YieldsM.of_if (Or.inl ⟨by rfl, ?ha5z4⟩)) ?ra5z4
                  case ha5z4 => ((intro wz hSw; (try dsimp only at hSw); go_simp); try (with_reducible rfl))
                  try simp only [Act.put, List.setIfInBounds_toArray, List.set_cons_zero, List.set_cons_succ]
                  refine wpAnyM_take (i := 5) (oi := ⟨some 119, .call { callee := .builtin .len, args := #[.tmp 118], argTypes := #[56] }, 3, "law.go:93", #[⟨4, .data⟩, ⟨2, .guard⟩], some (2, Bool.false)⟩) (v := ?va6z5) rfl (by kernel_rfl) (by kernel_rfl) (by kernel_rfl) (fun _ _ _ h => h) (YieldsM.of_if (Or.inl ⟨by rfl, ?ha6z5⟩)) ?ra6z5
                  case ha6z5 => ((intro wz hSw; (try dsimp only at hSw); go_simp); try (with_reducible rfl))
                  try simp only [Act.put, List.setIfInBounds_toArray, List.set_cons_zero, List.set_cons_succ]
                  refine wpAnyM_take (i := 6) (oi := ⟨some 120, .binOp .geq 3 (.tmp 117) (.tmp 119) 3, 4, "law.go:93", #[⟨3, .data⟩, ⟨5, .data⟩, ⟨2, .guard⟩], some (2, Bool.false)⟩) (v := ?va7z6) rfl (by kernel_rfl) (by kernel_rfl) (by kernel_rfl) (fun _ _ _ h => h) (YieldsM.of_if (Or.inl ⟨by rfl, ?ha7z6⟩)) ?ra7z6
                  case ha7z6 => ((intro wz hSw; (try dsimp only at hSw); go_simp); try (with_reducible rfl))
                  try simp only [Act.put, List.setIfInBounds_toArray, List.set_cons_zero, List.set_cons_succ]
                  refine wpAnyM_take (i := 7) (oi := ⟨some 121, .pick (.tmp 116) (.const (.bool Bool.true)) (.tmp 120), 4, "law.go:93", #[⟨2, .data⟩, ⟨6, .data⟩], none⟩) (v := ?va8z7) rfl (by kernel_rfl) (by kernel_rfl) (by kernel_rfl) (fun _ _ _ h => h) (YieldsM.of_if (Or.inl ⟨by rfl, ?ha8z7⟩)) ?ra8z7
                  case ha8z7 => ((intro wz hSw; (try dsimp only at hSw); go_simp); try (with_reducible rfl))
                  try simp only [Act.put, List.setIfInBounds_toArray, List.set_cons_zero, List.set_cons_succ]
                  refine wpAnyM_take (i := 8) (oi := ⟨some 122, .move (.tmp 121), 4, "law.go:93", #[⟨7, .data⟩, ⟨2, .chain⟩], none⟩) (v := ?va9z8) rfl (by kernel_rfl) (by kernel_rfl) (by kernel_rfl) (fun _ _ _ h => h) (YieldsM.of_if (Or.inl ⟨by rfl, ?ha9z8⟩)) ?ra9z8
                  case ha9z8 => ((intro wz hSw; (try dsimp only at hSw); go_simp); try (with_reducible rfl))
                  try simp only [Act.put, List.setIfInBounds_toArray, List.set_cons_zero, List.set_cons_succ]
                  refine wpAnyM_take (i := 9) (oi := ⟨some 123, .load 25 (.tmp 1), 25, "law.go:93", #[⟨8, .guard⟩], some (8, Bool.false)⟩) (v := ?va10z9) rfl (by kernel_rfl) (by kernel_rfl) (by kernel_rfl) (fun _ _ _ h => h) (YieldsM.of_if (Or.inl ⟨by rfl, ?ha10z9⟩)) ?ra10z9
                  case ha10z9 => ((intro wz hSw; (try dsimp only at hSw); go_simp); try (with_reducible rfl))
                  try simp only [Act.put, List.setIfInBounds_toArray, List.set_cons_zero, List.set_cons_succ]
                  refine wpAnyM_take (i := 10) (oi := ⟨some 124, .move (.tmp 14), 3, "law.go:93", #[⟨8, .guard⟩], some (8, Bool.false)⟩) (v := ?va11z10) rfl (by kernel_rfl) (by kernel_rfl) (by kernel_rfl) (fun _ _ _ h => h) (YieldsM.of_if (Or.inl ⟨by rfl, ?ha11z10⟩)) ?ra11z10
                  case ha11z10 => ((intro wz hSw; (try dsimp only at hSw); go_simp); try (with_reducible rfl))
                  try simp only [Act.put, List.setIfInBounds_toArray, List.set_cons_zero, List.set_cons_succ]
                  refine wpAnyM_take (i := 11) (oi := ⟨some 125, .call { callee := .value (.func 27), args := #[.tmp 123, .tmp 124], argTypes := #[25, 3] }, 65, "law.go:93", #[⟨9, .data⟩, ⟨10, .data⟩, ⟨8, .chain⟩, ⟨8, .guard⟩], some (8, Bool.false)⟩) (v := (.agg #[.int .u32 (l.hd : Int), .int .u64 (l.wt : Int), .int .u32 (l.lf : Int), .int .u32 (l.rt : Int)])) rfl (by kernel_rfl) (by kernel_rfl) (by kernel_rfl) (fun _ _ _ h => h) (YieldsM.of_call (f := 27) (by rfl) (fun _ _ => by kernel_rfl) (HLKJ.out)) ?_
                  try simp only [Act.put, List.setIfInBounds_toArray, List.set_cons_zero, List.set_cons_succ]
                  refine wpAnyM_take (i := 12) (oi := ⟨some 126, .call { callee := .value (.func 26), args := #[.tmp 125], argTypes := #[65] }, 4, "law.go:93", #[⟨11, .data⟩, ⟨11, .chain⟩, ⟨8, .guard⟩], some (8, Bool.false)⟩) (v := (.bool true)) rfl (by kernel_rfl) (by kernel_rfl) (by kernel_rfl) (fun _ _ _ h => h) (YieldsM.of_call (f := 26) (by rfl) (fun _ _ => by kernel_rfl) (HPLJ.out)) ?_
                  try simp only [Act.put, List.setIfInBounds_toArray, List.set_cons_zero, List.set_cons_succ]
                  refine wpAnyM_take (i := 13) (oi := ⟨some 127, .unOp .not 4 (.tmp 126), 4, "law.go:93", #[⟨12, .data⟩, ⟨8, .guard⟩], some (8, Bool.false)⟩) (v := ?va12z13) rfl (by kernel_rfl) (by kernel_rfl) (by kernel_rfl) (fun _ _ _ h => h) (YieldsM.of_if (Or.inl ⟨by rfl, ?ha12z13⟩)) ?ra12z13
                  case ha12z13 => ((intro wz hSw; (try dsimp only at hSw); go_simp); try (with_reducible rfl))
                  try simp only [Act.put, List.setIfInBounds_toArray, List.set_cons_zero, List.set_cons_succ]
                  refine wpAnyM_take (i := 14) (oi := ⟨some 128, .pick (.tmp 122) (.const (.bool Bool.true)) (.tmp 127), 4, "law.go:93", #[⟨8, .data⟩, ⟨13, .data⟩], none⟩) (v := ?va13z14) rfl (by kernel_rfl) (by kernel_rfl) (by kernel_rfl) (fun _ _ _ h => h) (YieldsM.of_if (Or.inl ⟨by rfl, ?ha13z14⟩)) ?ra13z14
                  case ha13z14 => ((intro wz hSw; (try dsimp only at hSw); go_simp); try (with_reducible rfl))
                  try simp only [Act.put, List.setIfInBounds_toArray, List.set_cons_zero, List.set_cons_succ]
                  refine wpAnyM_take (i := 15) (oi := ⟨some 129, .move (.tmp 128), 4, "law.go:93", #[⟨14, .data⟩, ⟨12, .chain⟩], none⟩) (v := ?va14z15) rfl (by kernel_rfl) (by kernel_rfl) (by kernel_rfl) (fun _ _ _ h => h) (YieldsM.of_if (Or.inl ⟨by rfl, ?ha14z15⟩)) ?ra14z15
                  case ha14z15 => ((intro wz hSw; (try dsimp only at hSw); go_simp); try (with_reducible rfl))
                  try simp only [Act.put, List.setIfInBounds_toArray, List.set_cons_zero, List.set_cons_succ]
                  refine wpAnyM_take (i := 16) (oi := ⟨some 130, .move (.tmp 4), 56, "law.go:93", #[⟨15, .guard⟩], some (15, Bool.false)⟩) (v := ?va15z16) rfl (by kernel_rfl) (by kernel_rfl) (by kernel_rfl) (fun _ _ _ h => h) (YieldsM.of_if (Or.inl ⟨by rfl, ?ha15z16⟩)) ?ra15z16
                  case ha15z16 => ((intro wz hSw; (try dsimp only at hSw); go_simp); try (with_reducible rfl))
                  try simp only [Act.put, List.setIfInBounds_toArray, List.set_cons_zero, List.set_cons_succ]
                  refine wpAnyM_take (i := 17) (oi := ⟨some 131, .move (.tmp 14), 3, "law.go:93", #[⟨15, .guard⟩], some (15, Bool.false)⟩) (v := ?va16z17) rfl (by kernel_rfl) (by kernel_rfl) (by kernel_rfl) (fun _ _ _ h => h) (YieldsM.of_if (Or.inl ⟨by rfl, ?ha16z17⟩)) ?ra16z17
                  case ha16z17 => ((intro wz hSw; (try dsimp only at hSw); go_simp); try (with_reducible rfl))
                  try simp only [Act.put, List.setIfInBounds_toArray, List.set_cons_zero, List.set_cons_succ]
                  refine wpAnyM_take (i := 18) (oi := ⟨some 132, .indexAddr 56 (.tmp 130) (.tmp 131), 0, "law.go:93", #[⟨16, .data⟩, ⟨17, .data⟩, ⟨15, .guard⟩], some (15, Bool.false)⟩) (v := ?va17z18) rfl (by kernel_rfl) (by kernel_rfl) (by kernel_rfl) (fun _ _ _ h => h) (YieldsM.of_if (Or.inl ⟨by rfl, ?ha17z18⟩)) ?ra17z18
                  case ha17z18 => ((intro wz hSw; (try dsimp only at hSw); go_simp); try (with_reducible rfl))
                  try simp only [Act.put, List.setIfInBounds_toArray, List.set_cons_zero, List.set_cons_succ]
                  refine wpAnyM_take (i := 19) (oi := ⟨some 133, .fieldAddr 59 (.tmp 132) 0, 0, "law.go:93", #[⟨18, .data⟩, ⟨15, .guard⟩], some (15, Bool.false)⟩) (v := ?va18z19) rfl (by kernel_rfl) (by kernel_rfl) (by kernel_rfl) (fun _ _ _ h => h) (YieldsM.of_if (Or.inl ⟨by rfl, ?ha18z19⟩)) ?ra18z19
                  case ha18z19 => ((intro wz hSw; (try dsimp only at hSw); go_simp); try (with_reducible rfl))
                  try simp only [Act.put, List.setIfInBounds_toArray, List.set_cons_zero, List.set_cons_succ]
                  refine wpAnyM_take (i := 20) (oi := ⟨some 134, .load 3 (.tmp 133), 3, "law.go:93", #[⟨19, .data⟩, ⟨15, .guard⟩], some (15, Bool.false)⟩) (v := ?va19z20) rfl (by kernel_rfl) (by kernel_rfl) (by kernel_rfl) (fun _ _ _ h => h) (YieldsM.of_if (Or.inl ⟨by rfl, ?ha19z20⟩)) ?ra19z20
                  case ha19z20 => ((intro wz hSw; (try dsimp only at hSw); go_simp); try (with_reducible rfl))
                  try simp only [Act.put, List.setIfInBounds_toArray, List.set_cons_zero, List.set_cons_succ]
                  refine wpAnyM_take (i := 21) (oi := ⟨some 135, .move (.tmp 12), 3, "law.go:93", #[⟨15, .guard⟩], some (15, Bool.false)⟩) (v := ?va20z21) rfl (by kernel_rfl) (by kernel_rfl) (by kernel_rfl) (fun _ _ _ h => h) (YieldsM.of_if (Or.inl ⟨by rfl, ?ha20z21⟩)) ?ra20z21
                  case ha20z21 => ((intro wz hSw; (try dsimp only at hSw); go_simp); try (with_reducible rfl))
                  try simp only [Act.put, List.setIfInBounds_toArray, List.set_cons_zero, List.set_cons_succ]
                  refine wpAnyM_take (i := 22) (oi := ⟨some 136, .binOp .neq 3 (.tmp 134) (.tmp 135) 3, 4, "law.go:93", #[⟨20, .data⟩, ⟨21, .data⟩, ⟨15, .guard⟩], some (15, Bool.false)⟩) (v := ?va21z22) rfl (by kernel_rfl) (by kernel_rfl) (by kernel_rfl) (fun _ _ _ h => h) (YieldsM.of_if (Or.inl ⟨by rfl, ?ha21z22⟩)) ?ra21z22
                  case ha21z22 => ((intro wz hSw; (try dsimp only at hSw); go_simp); try (with_reducible rfl))
                  try simp only [Act.put, List.setIfInBounds_toArray, List.set_cons_zero, List.set_cons_succ]
                  refine wpAnyM_take (i := 23) (oi := ⟨some 137, .pick (.tmp 129) (.const (.bool Bool.true)) (.tmp 136), 4, "law.go:93", #[⟨15, .data⟩, ⟨22, .data⟩], none⟩) (v := ?va22z23) rfl (by kernel_rfl) (by kernel_rfl) (by kernel_rfl) (fun _ _ _ h => h) (YieldsM.of_if (Or.inl ⟨by rfl, ?ha22z23⟩)) ?ra22z23
                  case ha22z23 => ((intro wz hSw; (try dsimp only at hSw); go_simp); try (with_reducible rfl))
                  try simp only [Act.put, List.setIfInBounds_toArray, List.set_cons_zero, List.set_cons_succ]
                  refine wpAnyM_take (i := 24) (oi := ⟨some 138, .move (.tmp 137), 4, "law.go:93", #[⟨23, .data⟩, ⟨15, .chain⟩], none⟩) (v := ?va23z24) rfl (by kernel_rfl) (by kernel_rfl) (by kernel_rfl) (fun _ _ _ h => h) (YieldsM.of_if (Or.inl ⟨by rfl, ?ha23z24⟩)) ?ra23z24
                  case ha23z24 => ((intro wz hSw; (try dsimp only at hSw); go_simp); try (with_reducible rfl))
                  try simp only [Act.put, List.setIfInBounds_toArray, List.set_cons_zero, List.set_cons_succ]
                  refine wpAnyM_take (i := 25) (oi := ⟨some 139, .move (.tmp 9), 28, "law.go:93", #[⟨24, .guard⟩], some (24, Bool.false)⟩) (v := ?va24z25) rfl (by kernel_rfl) (by kernel_rfl) (by kernel_rfl) (fun _ _ _ h => h) (YieldsM.of_if (Or.inl ⟨by rfl, ?ha24z25⟩)) ?ra24z25
                  case ha24z25 => ((intro wz hSw; (try dsimp only at hSw); go_simp); try (with_reducible rfl))
                  try simp only [Act.put, List.setIfInBounds_toArray, List.set_cons_zero, List.set_cons_succ]
                  refine wpAnyM_take (i := 26) (oi := ⟨some 140, .move (.tmp 13), 3, "law.go:93", #[⟨24, .guard⟩], some (24, Bool.false)⟩) (v := ?va25z26) rfl (by kernel_rfl) (by kernel_rfl) (by kernel_rfl) (fun _ _ _ h => h) (YieldsM.of_if (Or.inl ⟨by rfl, ?ha25z26⟩)) ?ra25z26
                  case ha25z26 => ((intro wz hSw; (try dsimp only at hSw); go_simp); try (with_reducible rfl))
                  try simp only [Act.put, List.setIfInBounds_toArray, List.set_cons_zero, List.set_cons_succ]
                  refine wpAnyM_take (i := 27) (oi := ⟨some 141, .indexAddr 28 (.tmp 139) (.tmp 140), 0, "law.go:93", #[⟨25, .data⟩, ⟨26, .data⟩, ⟨24, .guard⟩], some (24, Bool.false)⟩) (v := ?va26z27) rfl (by kernel_rfl) (by kernel_rfl) (by kernel_rfl) (fun _ _ _ h => h) (YieldsM.of_if (Or.inl ⟨by rfl, ?ha26z27⟩)) ?ra26z27
                  case ha26z27 => ((intro wz hSw; (try dsimp only at hSw); go_simp); try (with_reducible rfl))
                  try simp only [Act.put, List.setIfInBounds_toArray, List.set_cons_zero, List.set_cons_succ]
                  refine wpAnyM_take (i := 28) (oi := ⟨some 142, .load 3 (.tmp 141), 3, "law.go:93", #[⟨27, .data⟩, ⟨24, .guard⟩], some (24, Bool.false)⟩) (v := ?va27z28) rfl (by kernel_rfl) (by kernel_rfl) (by kernel_rfl) (fun _ _ _ h => h) (YieldsM.of_if (Or.inl ⟨by rfl, ?ha27z28⟩)) ?ra27z28
                  case ha27z28 => ((intro wz hSw; (try dsimp only at hSw); go_simp); try (with_reducible rfl))
                  try simp only [Act.put, List.setIfInBounds_toArray, List.set_cons_zero, List.set_cons_succ]
                  refine wpAnyM_take (i := 29) (oi := ⟨some 143, .fieldAddr 25 (.tmp 1) 0, 0, "law.go:93", #[⟨24, .guard⟩], some (24, Bool.false)⟩) (v := ?va28z29) rfl (by kernel_rfl) (by kernel_rfl) (by kernel_rfl) (fun _ _ _ h => h) (YieldsM.of_if (Or.inl ⟨by rfl, ?ha28z29⟩)) ?ra28z29
                  case ha28z29 => ((intro wz hSw; (try dsimp only at hSw); go_simp); try (with_reducible rfl))
                  try simp only [Act.put, List.setIfInBounds_toArray, List.set_cons_zero, List.set_cons_succ]
                  refine wpAnyM_take (i := 30) (oi := ⟨some 144, .load 22 (.tmp 143), 22, "law.go:93", #[⟨29, .data⟩, ⟨24, .guard⟩], some (24, Bool.false)⟩) (v := ?va29z30) rfl (by kernel_rfl) (by kernel_rfl) (by kernel_rfl) (fun _ _ _ h => h) (YieldsM.of_if (Or.inl ⟨by rfl, ?ha29z30⟩)) ?ra29z30
                  case ha29z30 => ((intro wz hSw; (try dsimp only at hSw); go_simp); try (with_reducible rfl))
                  try simp only [Act.put, List.setIfInBounds_toArray, List.set_cons_zero, List.set_cons_succ]
                  refine wpAnyM_take (i := 31) (oi := ⟨some 145, .move (.tmp 12), 3, "law.go:93", #[⟨24, .guard⟩], some (24, Bool.false)⟩) (v := ?va30z31) rfl (by kernel_rfl) (by kernel_rfl) (by kernel_rfl) (fun _ _ _ h => h) (YieldsM.of_if (Or.inl ⟨by rfl, ?ha30z31⟩)) ?ra30z31
                  case ha30z31 => ((intro wz hSw; (try dsimp only at hSw); go_simp); try (with_reducible rfl))
                  try simp only [Act.put, List.setIfInBounds_toArray, List.set_cons_zero, List.set_cons_succ]
                  refine wpAnyM_take (i := 32) (oi := ⟨some 146, .indexAddr 22 (.tmp 144) (.tmp 145), 0, "law.go:93", #[⟨30, .data⟩, ⟨31, .data⟩, ⟨24, .guard⟩], some (24, Bool.false)⟩) (v := ?va31z32) rfl (by kernel_rfl) (by kernel_rfl) (by kernel_rfl) (fun _ _ _ h => h) (YieldsM.of_if (Or.inl ⟨by rfl, ?ha31z32⟩)) ?ra31z32
                  case ha31z32 => ((intro wz hSw; (try dsimp only at hSw); go_simp); try (with_reducible rfl))
                  try simp only [Act.put, List.setIfInBounds_toArray, List.set_cons_zero, List.set_cons_succ]
                  refine wpAnyM_take (i := 33) (oi := ⟨some 147, .load 62 (.tmp 146), 62, "law.go:93", #[⟨32, .data⟩, ⟨24, .guard⟩], some (24, Bool.false)⟩) (v := ?va32z33) rfl (by kernel_rfl) (by kernel_rfl) (by kernel_rfl) (fun _ _ _ h => h) (YieldsM.of_if (Or.inl ⟨by rfl, ?ha32z33⟩)) ?ra32z33
                  case ha32z33 => ((intro wz hSw; (try dsimp only at hSw); go_simp); try (with_reducible rfl))
                  try simp only [Act.put, List.setIfInBounds_toArray, List.set_cons_zero, List.set_cons_succ]
                  refine wpAnyM_take (i := 34) (oi := ⟨some 148, .convert 62 3 (.tmp 147), 3, "law.go:93", #[⟨33, .data⟩, ⟨24, .guard⟩], some (24, Bool.false)⟩) (v := ?va33z34) rfl (by kernel_rfl) (by kernel_rfl) (by kernel_rfl) (fun _ _ _ h => h) (YieldsM.of_if (Or.inl ⟨by rfl, ?ha33z34⟩)) ?ra33z34
                  case ha33z34 => ((intro wz hSw; (try dsimp only at hSw); go_simp); try (with_reducible rfl))
                  try simp only [Act.put, List.setIfInBounds_toArray, List.set_cons_zero, List.set_cons_succ]
                  refine wpAnyM_take (i := 35) (oi := ⟨some 149, .binOp .neq 3 (.tmp 142) (.tmp 148) 3, 4, "law.go:93", #[⟨28, .data⟩, ⟨34, .data⟩, ⟨24, .guard⟩], some (24, Bool.false)⟩) (v := ?va34z35) rfl (by kernel_rfl) (by kernel_rfl) (by kernel_rfl) (fun _ _ _ h => h) (YieldsM.of_if (Or.inl ⟨by rfl, ?ha34z35⟩)) ?ra34z35
                  case ha34z35 => ((intro wz hSw; (try dsimp only at hSw); go_simp); try (with_reducible rfl))
                  try simp only [Act.put, List.setIfInBounds_toArray, List.set_cons_zero, List.set_cons_succ]
                  refine wpAnyM_take (i := 36) (oi := ⟨some 150, .pick (.tmp 138) (.const (.bool Bool.true)) (.tmp 149), 4, "law.go:93", #[⟨24, .data⟩, ⟨35, .data⟩], none⟩) (v := ?va35z36) rfl (by kernel_rfl) (by kernel_rfl) (by kernel_rfl) (fun _ _ _ h => h) (YieldsM.of_if (Or.inl ⟨by rfl, ?ha35z36⟩)) ?ra35z36
                  case ha35z36 => ((intro wz hSw; (try dsimp only at hSw); go_simp); try (with_reducible rfl))
                  try simp only [Act.put, List.setIfInBounds_toArray, List.set_cons_zero, List.set_cons_succ]
                  refine wpAnyM_take (i := 37) (oi := ⟨some 151, .move (.tmp 150), 4, "law.go:93", #[⟨36, .data⟩, ⟨24, .chain⟩], none⟩) (v := ?va36z37) rfl (by kernel_rfl) (by kernel_rfl) (by kernel_rfl) (fun _ _ _ h => h) (YieldsM.of_if (Or.inl ⟨by rfl, ?ha36z37⟩)) ?ra36z37
                  case ha36z37 => ((intro wz hSw; (try dsimp only at hSw); go_simp); try (with_reducible rfl))
                  try simp only [Act.put, List.setIfInBounds_toArray, List.set_cons_zero, List.set_cons_succ]
                  refine wpAnyM_take (i := 38) (oi := ⟨some 152, .move (.tmp 9), 28, "law.go:93", #[⟨37, .guard⟩], some (37, Bool.false)⟩) (v := ?va37z38) rfl (by kernel_rfl) (by kernel_rfl) (by kernel_rfl) (fun _ _ _ h => h) (YieldsM.of_if (Or.inl ⟨by rfl, ?ha37z38⟩)) ?ra37z38
                  case ha37z38 => ((intro wz hSw; (try dsimp only at hSw); go_simp); try (with_reducible rfl))
                  try simp only [Act.put, List.setIfInBounds_toArray, List.set_cons_zero, List.set_cons_succ]
                  refine wpAnyM_take (i := 39) (oi := ⟨some 153, .move (.tmp 13), 3, "law.go:93", #[⟨37, .guard⟩], some (37, Bool.false)⟩) (v := ?va38z39) rfl (by kernel_rfl) (by kernel_rfl) (by kernel_rfl) (fun _ _ _ h => h) (YieldsM.of_if (Or.inl ⟨by rfl, ?ha38z39⟩)) ?ra38z39
                  case ha38z39 => ((intro wz hSw; (try dsimp only at hSw); go_simp); try (with_reducible rfl))
                  try simp only [Act.put, List.setIfInBounds_toArray, List.set_cons_zero, List.set_cons_succ]
                  refine wpAnyM_take (i := 40) (oi := ⟨some 154, .binOp .add 3 (.tmp 153) (.const (.int .i64 1)) 3, 3, "law.go:93", #[⟨39, .data⟩, ⟨37, .guard⟩], some (37, Bool.false)⟩) (v := ?va39z40) rfl (by kernel_rfl) (by kernel_rfl) (by kernel_rfl) (fun _ _ _ h => h) (YieldsM.of_if (Or.inl ⟨by rfl, ?ha39z40⟩)) ?ra39z40
                  case ha39z40 => ((intro wz hSw; (try dsimp only at hSw); go_simp); try (with_reducible rfl))
                  try simp only [Act.put, List.setIfInBounds_toArray, List.set_cons_zero, List.set_cons_succ]
                  refine wpAnyM_take (i := 41) (oi := ⟨some 155, .indexAddr 28 (.tmp 152) (.tmp 154), 0, "law.go:93", #[⟨38, .data⟩, ⟨40, .data⟩, ⟨37, .guard⟩], some (37, Bool.false)⟩) (v := ?va40z41) rfl (by kernel_rfl) (by kernel_rfl) (by kernel_rfl) (fun _ _ _ h => h) (YieldsM.of_if (Or.inl ⟨by rfl, ?ha40z41⟩)) ?ra40z41
                  case ha40z41 => ((intro wz hSw; (try dsimp only at hSw); go_simp); try (with_reducible rfl))
                  try simp only [Act.put, List.setIfInBounds_toArray, List.set_cons_zero, List.set_cons_succ]
                  refine wpAnyM_take (i := 42) (oi := ⟨some 156, .load 3 (.tmp 155), 3, "law.go:93", #[⟨41, .data⟩, ⟨37, .guard⟩], some (37, Bool.false)⟩) (v := ?va41z42) rfl (by kernel_rfl) (by kernel_rfl) (by kernel_rfl) (fun _ _ _ h => h) (YieldsM.of_if (Or.inl ⟨by rfl, ?ha41z42⟩)) ?ra41z42
                  case ha41z42 => ((intro wz hSw; (try dsimp only at hSw); go_simp); try (with_reducible rfl))
                  try simp only [Act.put, List.setIfInBounds_toArray, List.set_cons_zero, List.set_cons_succ]
                  refine wpAnyM_take (i := 43) (oi := ⟨some 157, .fieldAddr 25 (.tmp 1) 0, 0, "law.go:93", #[⟨37, .guard⟩], some (37, Bool.false)⟩) (v := ?va42z43) rfl (by kernel_rfl) (by kernel_rfl) (by kernel_rfl) (fun _ _ _ h => h) (YieldsM.of_if (Or.inl ⟨by rfl, ?ha42z43⟩)) ?ra42z43
                  case ha42z43 => ((intro wz hSw; (try dsimp only at hSw); go_simp); try (with_reducible rfl))
                  try simp only [Act.put, List.setIfInBounds_toArray, List.set_cons_zero, List.set_cons_succ]
                  refine wpAnyM_take (i := 44) (oi := ⟨some 158, .load 22 (.tmp 157), 22, "law.go:93", #[⟨43, .data⟩, ⟨37, .guard⟩], some (37, Bool.false)⟩) (v := ?va43z44) rfl (by kernel_rfl) (by kernel_rfl) (by kernel_rfl) (fun _ _ _ h => h) (YieldsM.of_if (Or.inl ⟨by rfl, ?ha43z44⟩)) ?ra43z44
                  case ha43z44 => ((intro wz hSw; (try dsimp only at hSw); go_simp); try (with_reducible rfl))
                  try simp only [Act.put, List.setIfInBounds_toArray, List.set_cons_zero, List.set_cons_succ]
                  refine wpAnyM_take (i := 45) (oi := ⟨some 159, .move (.tmp 4), 56, "law.go:93", #[⟨37, .guard⟩], some (37, Bool.false)⟩) (v := ?va44z45) rfl (by kernel_rfl) (by kernel_rfl) (by kernel_rfl) (fun _ _ _ h => h) (YieldsM.of_if (Or.inl ⟨by rfl, ?ha44z45⟩)) ?ra44z45
                  case ha44z45 => ((intro wz hSw; (try dsimp only at hSw); go_simp); try (with_reducible rfl))
                  try simp only [Act.put, List.setIfInBounds_toArray, List.set_cons_zero, List.set_cons_succ]
                  refine wpAnyM_take (i := 46) (oi := ⟨some 160, .move (.tmp 14), 3, "law.go:93", #[⟨37, .guard⟩], some (37, Bool.false)⟩) (v := ?va45z46) rfl (by kernel_rfl) (by kernel_rfl) (by kernel_rfl) (fun _ _ _ h => h) (YieldsM.of_if (Or.inl ⟨by rfl, ?ha45z46⟩)) ?ra45z46
                  case ha45z46 => ((intro wz hSw; (try dsimp only at hSw); go_simp); try (with_reducible rfl))
                  try simp only [Act.put, List.setIfInBounds_toArray, List.set_cons_zero, List.set_cons_succ]
                  refine wpAnyM_take (i := 47) (oi := ⟨some 161, .indexAddr 56 (.tmp 159) (.tmp 160), 0, "law.go:93", #[⟨45, .data⟩, ⟨46, .data⟩, ⟨37, .guard⟩], some (37, Bool.false)⟩) (v := ?va46z47) rfl (by kernel_rfl) (by kernel_rfl) (by kernel_rfl) (fun _ _ _ h => h) (YieldsM.of_if (Or.inl ⟨by rfl, ?ha46z47⟩)) ?ra46z47
                  case ha46z47 => ((intro wz hSw; (try dsimp only at hSw); go_simp); try (with_reducible rfl))
                  try simp only [Act.put, List.setIfInBounds_toArray, List.set_cons_zero, List.set_cons_succ]
                  refine wpAnyM_take (i := 48) (oi := ⟨some 162, .fieldAddr 59 (.tmp 161) 1, 0, "law.go:93", #[⟨47, .data⟩, ⟨37, .guard⟩], some (37, Bool.false)⟩) (v := ?va47z48) rfl (by kernel_rfl) (by kernel_rfl) (by kernel_rfl) (fun _ _ _ h => h) (YieldsM.of_if (Or.inl ⟨by rfl, ?ha47z48⟩)) ?ra47z48
                  case ha47z48 => ((intro wz hSw; (try dsimp only at hSw); go_simp); try (with_reducible rfl))
                  try simp only [Act.put, List.setIfInBounds_toArray, List.set_cons_zero, List.set_cons_succ]
                  refine wpAnyM_take (i := 49) (oi := ⟨some 163, .load 3 (.tmp 162), 3, "law.go:93", #[⟨48, .data⟩, ⟨37, .guard⟩], some (37, Bool.false)⟩) (v := ?va48z49) rfl (by kernel_rfl) (by kernel_rfl) (by kernel_rfl) (fun _ _ _ h => h) (YieldsM.of_if (Or.inl ⟨by rfl, ?ha48z49⟩)) ?ra48z49
                  case ha48z49 => ((intro wz hSw; (try dsimp only at hSw); go_simp); try (with_reducible rfl))
                  try simp only [Act.put, List.setIfInBounds_toArray, List.set_cons_zero, List.set_cons_succ]
                  refine wpAnyM_take (i := 50) (oi := ⟨some 164, .indexAddr 22 (.tmp 158) (.tmp 163), 0, "law.go:93", #[⟨44, .data⟩, ⟨49, .data⟩, ⟨37, .guard⟩], some (37, Bool.false)⟩) (v := ?va49z50) rfl (by kernel_rfl) (by kernel_rfl) (by kernel_rfl) (fun _ _ _ h => h) (YieldsM.of_if (Or.inl ⟨by rfl, ?ha49z50⟩)) ?ra49z50
                  case ha49z50 => ((intro wz hSw; (try dsimp only at hSw); go_simp); try (with_reducible rfl))
                  try simp only [Act.put, List.setIfInBounds_toArray, List.set_cons_zero, List.set_cons_succ]
                  refine wpAnyM_take (i := 51) (oi := ⟨some 165, .load 62 (.tmp 164), 62, "law.go:93", #[⟨50, .data⟩, ⟨37, .guard⟩], some (37, Bool.false)⟩) (v := ?va50z51) rfl (by kernel_rfl) (by kernel_rfl) (by kernel_rfl) (fun _ _ _ h => h) (YieldsM.of_if (Or.inl ⟨by rfl, ?ha50z51⟩)) ?ra50z51
                  case ha50z51 => ((intro wz hSw; (try dsimp only at hSw); go_simp); try (with_reducible rfl))
                  try simp only [Act.put, List.setIfInBounds_toArray, List.set_cons_zero, List.set_cons_succ]
                  refine wpAnyM_take (i := 52) (oi := ⟨some 166, .convert 62 3 (.tmp 165), 3, "law.go:93", #[⟨51, .data⟩, ⟨37, .guard⟩], some (37, Bool.false)⟩) (v := ?va51z52) rfl (by kernel_rfl) (by kernel_rfl) (by kernel_rfl) (fun _ _ _ h => h) (YieldsM.of_if (Or.inl ⟨by rfl, ?ha51z52⟩)) ?ra51z52
                  case ha51z52 => ((intro wz hSw; (try dsimp only at hSw); go_simp); try (with_reducible rfl))
                  try simp only [Act.put, List.setIfInBounds_toArray, List.set_cons_zero, List.set_cons_succ]
                  refine wpAnyM_take (i := 53) (oi := ⟨some 167, .binOp .neq 3 (.tmp 156) (.tmp 166) 3, 4, "law.go:93", #[⟨42, .data⟩, ⟨52, .data⟩, ⟨37, .guard⟩], some (37, Bool.false)⟩) (v := ?va52z53) rfl (by kernel_rfl) (by kernel_rfl) (by kernel_rfl) (fun _ _ _ h => h) (YieldsM.of_if (Or.inl ⟨by rfl, ?ha52z53⟩)) ?ra52z53
                  case ha52z53 => ((intro wz hSw; (try dsimp only at hSw); go_simp); try (with_reducible rfl))
                  try simp only [Act.put, List.setIfInBounds_toArray, List.set_cons_zero, List.set_cons_succ]
                  refine wpAnyM_take (i := 54) (oi := ⟨some 168, .pick (.tmp 151) (.const (.bool Bool.true)) (.tmp 167), 4, "law.go:93", #[⟨37, .data⟩, ⟨53, .data⟩], none⟩) (v := ?va53z54) rfl (by kernel_rfl) (by kernel_rfl) (by kernel_rfl) (fun _ _ _ h => h) (YieldsM.of_if (Or.inl ⟨by rfl, ?ha53z54⟩)) ?ra53z54
                  case ha53z54 => ((intro wz hSw; (try dsimp only at hSw); go_simp); try (with_reducible rfl))
                  try simp only [Act.put, List.setIfInBounds_toArray, List.set_cons_zero, List.set_cons_succ]
                  refine wpAnyM_done (by kernel_rfl) ?_ _
                  intro u9 hg9 hS9
                  have U9 : Hid (Below y11.heap.size y11 u9) := hS9.2.2.2.2.2.2.2.2.2.2.2.out
                  obtain ⟨c0, c1, c2, c3, c4, _⟩ := hS9
                  obtain ⟨e1, el⟩ := HEH.out u9 U9.out
                  have HL9 : Hid (type_of% (HLKX.out u9 U9.out)) := HLKX.out u9 U9.out
                  clear hg9 HLKJ HPLJ HSS
                  obtain ⟨S0, hS0⟩ : ∃ S0 : Int, ((wtS h (F.take t) : Nat) : Int) = S0 := ⟨_, rfl⟩
                  obtain ⟨S1, hS1⟩ : ∃ S1 : Int, ((wtS h (F.take (t + 1)) : Nat) : Int) = S1 := ⟨_, rfl⟩
                  have hsum := HSUM.out
                  rw [hS0, hS1] at hsum
                  rw [hS0]
                  go_wp2_with fail
                  refine HL9.out.mono ?_
                  rintro e u10 ⟨rfl, hb⟩
                  have U10 : Hid (Below y11.heap.size y11 u10) := btrU U9.out hb
                  clear hb c0 c1 c2 c3 c4 e1 el HL9
                  have hfw := field_wt (l.hd : Int) (l.wt : Int) (l.lf : Int) (l.rt : Int) u10
                  go_wp2_with fail
                  go_roundw
                  case rel => exact ⟨t + 1, hd, by omega, by rw [show (t : Int) + 1 = ((t + 1 : Nat) : Int) by omega], by rw [hS1], HHD.out, rfl, U10.out⟩
                  case measure => simp only [intOf]; omega
                · have s3 : decide ((t : Int) < (F.length : Int)) = false := by simp; omega
                  subst ht1
                  have HFIN : Hid (((wtS h (F.take F.length) : Nat) : Int) = ((linkAt h k).wt : Int)) := by
                    have e3 := HST.out.wt
                    have e4 := (link_ok HC.out.1 HKS.out.1).lk
                    show _ = _
                    rw [List.take_length, e3, e4]
                    rfl
                  obtain ⟨⟨c0, c1, c2, c3, c4⟩, l0, _, hHH, _⟩ := HX.out wr (HX0.out wr (H11.out wr HBS.out).2.2.2).1
                  have HL9 : Hid (type_of% (HTL.out wr k hHH HKS.out.2)) := HTL.out wr k hHH HKS.out.2
                  unfold lvl at HL9
                  obtain ⟨l, hll⟩ : ∃ l, linkAt h k = l := ⟨_, rfl⟩
                  have hfin := HFIN.out
                  rw [hll] at hfin HL9
                  rw [hfin]
                  clear hll hHH
                  go_wp2_with fail
                  refine HL9.out.mono ?_
                  rintro e u10 ⟨rfl, hb⟩
                  have U10 : Hid (Below X0.heap.size X0 u10) := (H11.out u10 (btrU HBS.out hb)).2.2.2
                  clear hb c0 c1 c2 c3 c4 l0 HL9
                  have hfw := field_wt (l.hd : Int) (l.wt : Int) (l.lf : Int) (l.rt : Int) u10
                  go_wp2_with fail
                  go_roundw
                  case rel => exact ⟨k + 1, by omega, by rw [show (k : Int) + 1 = ((k + 1 : Nat) : Int) by omega], U10.out⟩
                  case measure => simp only [intOf]; omega
          · have heE : lkE h (k : Int) = (2, []) := lkE_long HC.out.1 HKS.out.2 (by rw [hF]; omega)
            have hLL : lkL h (k : Int) = [] := lkL_bad (by rw [heE]; decide)
            have hNN : lkN h (k : Int) = [] := lkN_bad (by rw [heE]; decide)
            rw [heE, hLL, hNN] at HL7
            have HLK8 : Hid (∀ wx, HasH wx v h → Calls Tryz.prog 15 #[(.agg #[.slice v.no h.node.length v.nc, .slice v.uo h.upF.length v.uc, .slice v.ul h.up.length v.ulc, .slice v.wo h.dnF.length v.wc, .slice v.dl h.dn.length v.dlc]), .int .i64 (k : Int)] wx (LkA wx (2, []) [])) := fun wx hu => by
              have g := (HLK.out wx (k : Int) hu).2
              rw [heE, hNN] at g
              exact g
            clear heE hLL hNN hF hR hle
            go_wp2_with fail
            refine HL7.out.1.mono ?_
            rintro e y8 ⟨lo1, lc1, g8, rfl, ht, hg⟩
            have H8 : Hid (∀ wx, Below y8.heap.size y8 wx → IsTold wx (2, []) g8 ∧ Below W7.heap.size W7 wx) := fun wx hx => ⟨ht.keep (Below.keeps hx), btrU hg.bel hx⟩
            clear ht hg c0 c1 c2 c3 c4 l0
            obtain ⟨⟨c0, c1, c2, c3, c4⟩, l0, _⟩ := HX.out y8 (HX0.out y8 (H7.out y8 (H8.out y8 (Below.refl _ _)).2).2).1
            go_wp2_with fail
            refine (HLK8.out y8 (HX.out y8 (HX0.out y8 (H7.out y8 (H8.out y8 (Below.refl _ _)).2).2).1).2.2.2.1).mono ?_
            rintro e y9 ⟨mo, mc, g9, rfl, ht, hg⟩
            have B9 : Hid (Below y8.heap.size y8 y9) := hg.bel
            clear ht hg c0 c1 c2 c3 c4 l0 HLK8 HL7
            go_wp2_with fail
            refine (E_calls 2 y9).mono ?_
            rintro e y10 ⟨rfl, hb⟩
            have B10 : Hid (Below y8.heap.size y8 y10) := btrU B9.out hb
            clear hb
            have HSN : Hid (Calls Tryz.prog 13 #[g8, .agg #[.int .i64 2, .slice none 0 0]] y10 fun r w' => r = .returned (.bool true) ∧ Below y10.heap.size y10 w') := seen_told (2, []) g8 none 0 y10 (H8.out y10 B10.out).1 (pl_nil _) (Nat.zero_le _) (HX.out y10 (HX0.out y10 (H7.out y10 (H8.out y10 B10.out).2).2).1).2.2.2.2
            go_wp2_with fail
            refine HSN.out.mono ?_
            rintro e y11 ⟨rfl, hb⟩
            have B11 : Hid (Below X0.heap.size X0 y11) := (H7.out y11 (H8.out y11 (btrU B10.out hb)).2).2
            clear hb
            go_wp2_with fail
            go_roundw
            case rel => exact ⟨k + 1, by omega, by rw [show (k : Int) + 1 = ((k + 1 : Nat) : Int) by omega], B11.out⟩
            case measure => simp only [intOf]; omega
        · have q6 : decide ((k : Int) < (C : Int)) = false := by simp; omega
          go_wp2
          go_ret
          exact ⟨rfl, (HX.out wr (HX0.out wr HB.out).1).2.2.1⟩
    · have j1 : decide (E = (0, [])) = false := by simpa using hc
      clear hc
      go_wp2
      go_ret
      exact ⟨rfl, (HX.out y5 B5.out).2.2.1⟩
end Go.Proofs.YtodilocmfdeehaaGreatDoor.Hi
