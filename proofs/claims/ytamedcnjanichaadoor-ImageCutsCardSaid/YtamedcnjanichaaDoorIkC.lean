/- the law ImageCuts. (Printed by genik.py.) -/
import Derived.Test.YtamedcnjanichaaDoorIjX
import Derived.Test.YtamedcnjanichaaDoorCrG3
import Derived.Test.YtamedcnjanichaaDoorDocCheck
namespace Go.Proofs.YtamedcnjanichaaDoor
open Go.RowKit Go.Extern Cr

attribute [local go_sem] Oper.semAt_some

theorem next_far {need old : Nat} (h : old < need) (hn : need ≤ 140737688355328) : Builtin.nextslicecap need old ≤ 281474976710656 := by
  unfold Builtin.nextslicecap
  split
  · omega
  · split
    · omega
    · simp only [Builtin.growBy]
      repeat' split
      all_goals omega
/-- append where old and new bytes together are a little more than the library's laws say. -/
theorem append_far {w : World} {base c : Nat} {v : Value} {L l : List Nat} {ad : Addr} (ty : TypeId) (hown : w.ownsRow base 5 1 v L.length (bv L)) (hl : HasB w (.slice (some ad) l.length c) l) (hL : L.length ≤ 100000000) (hm : l.length ≤ 140737488355328) (hbase : base ≤ w.heap.size) :
    ∃ v' w', (Builtin.append_ #[26, 26] ty #[v, .slice (some ad) l.length c]).run Tryd.prog w = .ok v' w' ∧ w'.ownsRow base 5 1 v' (L ++ l).length (bv (L ++ l)) ∧ w.grownBy w' v.ownBlock := by
  obtain ⟨i0, hi, hz0, hz1, hz2⟩ := infoB
  by_cases hsm : L.length + l.length ≤ 140737488355328
  · obtain ⟨v', w', h1, h2, h3, _⟩ := run_append_own (P := Tryd.prog) w base 26 ty 5 i0 (.int .u8 0) 1 1 Tryd.underlying26 hi hz0 hz1 hz2 rfl (by decide) v L.length (bv L) hown ad l.length c (bv l) (bv_len l) (hasB_cells' hl) (bv_one l) (by unfold maxLen; omega) (by omega) hbase
    exact ⟨v', w', h1, by rw [List.length_append, bv_append]; exact h2, h3⟩
  have hlen : (bv (L ++ l)).length = (L ++ l).length * 1 := bv_len _
  have hLl : (L ++ l).length = L.length + l.length := List.length_append
  rcases hown.2 with ⟨_, h0⟩ | ⟨g, cap, cur, rfl, hbg, hg, hnc, hcm, hcs, htake⟩
  · omega
  by_cases hroom : L.length + l.length ≤ cap
  · have hr := run_append_room (P := Tryd.prog) w 26 ty 5 i0 Tryd.underlying26 hi g L.length cap cur hg ad l.length c (bv l) (by rw [hz1]; exact bv_len l) (hasB_cells' hl) (bv_one l) hroom (by rw [hz1, bv_len, hcs]; omega)
    rw [hz1] at hr
    refine ⟨_, _, hr, ⟨hlen, Or.inr ⟨g, cap, _, by rw [hLl], hbg, setRow_heap w g cur _ 5 _ hg, by omega, hcm, ?_, ?_⟩⟩, ⟨rfl, rfl, rfl, by simp, fun k _ hk => setRow_other w g k _ (fun e => hk (by simp [Value.ownBlock, e]))⟩⟩
    · have e1 : cur.size = cap := by omega
      have e2 : (bv l).length = l.length := by rw [bv_len]; omega
      simp only [List.size_toArray, List.length_append, List.length_take, List.length_drop, Array.length_toList, e1, e2]
      omega
    · rw [htake, ← bv_append, ← hlen]
      exact List.take_left
  · have hr := run_append_grow (P := Tryd.prog) w 26 ty 5 i0 (.int .u8 0) Tryd.underlying26 hi hz0 ⟨g, 0, none⟩ L.length cap (bv L) (by rw [hz1]; exact bv_len L) (hown.cells (g := g) rfl) ad l.length c (bv l) (by rw [hz1]; exact bv_len l) (hasB_cells' hl) (by omega) (by omega) (by rw [hz2]; have := next_far (need := L.length + l.length) (old := cap) (by omega) (by omega); omega)
    have hge := grownCap_ge w (L.length + l.length) cap 5
    have hcm2 : grownCap w (L.length + l.length) cap 5 ≤ maxLen := grownCap_le_maxLen w _ cap 5 (by unfold maxLen; omega)
    refine ⟨_, _, hr, ⟨hlen, Or.inr ⟨w.heap.size, _, _, by rw [hLl], hbase, heap_new w.drew _, by omega, hcm2, ?_, ?_⟩⟩, ⟨rfl, rfl, rfl, by simp, fun k hk _ => Below.heap_alloc w.drew _ _ hk⟩⟩
    · simp only [Array.size_append, List.size_toArray, size_zeroCells, bv_len]
      have e9 : (Value.int .u8 0).cells.size = 1 := rfl
      rw [e9]
      omega
    · simp only [Array.toList_append]
      rw [← bv_append, ← hlen]
      exact List.take_left
theorem wpList_append_far {w : World} {ops : Array Oper} {rest : List Oper} {o : Oper} {a : Act} {Q : Exit → Act → World → Prop} (hgd : o.guard = none) (s x : Operand)
    (ho : o.op = .call { callee := .builtin .append, args := #[s, x], argTypes := #[26, 26] })
    (base : Nat) (v : Value) (L : List Nat) (hs : a.eval s = v) (hown : w.ownsRow base 5 1 v L.length (bv L))
    (ad : Addr) (lc : Nat) (l : List Nat) (hx : a.eval x = .slice (some ad) l.length lc) (hl : HasB w (.slice (some ad) l.length lc) l)
    (hL : L.length ≤ 100000000) (hm : l.length ≤ 140737488355328) (hbase : base ≤ w.heap.size)
    (h : ∀ v' w', w'.ownsRow base 5 1 v' (L ++ l).length (bv (L ++ l)) → w.grownBy w' v.ownBlock → wpList Tryd.prog ops Q rest (a.put o.dst v') w') : wpList Tryd.prog ops Q (o :: rest) a w :=
  wpList_plain hgd fun _ hK => by
    obtain ⟨v', w', hr, h2, h3⟩ := append_far o.type hown hl hL hm hbase
    unfold Oper.wp execOp
    simp only [ho, resolve, invoke, builtin, Sem.run_bind, Sem.run_pure, Result.andThen_ok, List.map_toArray, List.map_cons, List.map_nil, hs, hx, hr]
    exact hK _ _ (h v' w' h2 h3)
theorem hasB_cut {w : World} {lo : Option Addr} {lc n c : Nat} {l : List Nat} (h : HasB w (.slice lo n lc) l) (k : Nat) : HasB w (.slice lo (l.take k).length c) (l.take k) := by
  refine ⟨lo, c, rfl, fun j a hj => ?_⟩
  have hj' : l[j]? = some a := by
    rw [List.getElem?_take] at hj
    split at hj
    · exact hj
    · cases hj
  obtain ⟨b, off, e, hb, hc⟩ := h.at hj'
  exact ⟨b, off, e, hb, hc⟩
theorem slice_cutB (b off n lc i : Nat) (h : n ≤ lc) (hi : i ≤ n) (w : World) : (Instr.slice 26 (.slice (some ⟨b, off, none⟩) n lc) none (some (.int .i64 (i : Int))) (some (.int .i64 (i : Int)))).run Tryd.prog w = .ok (.slice (some ⟨b, off, none⟩) i i) w := by
  have e2 : (i : Int).toNat = i := by omega
  have q1 : (0 : Int) ≤ (i : Int) ∧ (i : Int) ≤ (lc : Int) := by omega
  have q2 : (0 : Int) ≤ (i : Int) ∧ (i : Int) ≤ (i : Int) := by omega
  have eu : (underlying 26).run Tryd.prog w = .ok (.slice (Tryd.prog.elem 26)) w := run_underlying Tryd.elemB w
  simp only [Instr.slice, Instr.sliceBounds, Instr.sliceBound, asIntOf, Sem.run_bind, Sem.run_pure, eu, Result.andThen_ok, e2, if_pos q1, if_pos q2, Tryd.sizeB]
  simp [Addr.add]
theorem places_atI {w : World} {g : Nat} {k i : Int} (h : w.heap[g]? = some (.cells #[.int .i64 k, .int .i64 i] 75)) : HasPlaces w (.slice (some ⟨g, 0, none⟩) 1 1) [(k, i)] := Hi.pl_one h

set_option maxRecDepth 100000 in
set_option maxHeartbeats 4000000 in
theorem imageCuts_calls (v : Hi.HV) (h : Hi.Hr) (k : Int) (ao : Option Addr) (ac : Nat) (m : List Nat) (w : World) (hH : Hi.HasH w v h) (hr : Hi.Reach h) (hN : NilH v) (hk1 : -9223372036854775808 ≤ k) (hk2 : k ≤ 9223372036854775807) (hml : HasB w (.slice ao m.length ac) m) (hmc : m.length ≤ ac) (hmb : Bts m) (hmm : m.length ≤ 140737488351232) (hmn : ao = none → ac = 0) (hf : HasFours w) (hg : 1 < w.heap.size) (hty : HasType w) :
    Calls Tryd.prog 5 #[Hi.hvl v h, .int .i64 k, .slice ao m.length ac] w fun e w' => e = .returned (.bool true) ∧ Below w.heap.size w w' := by
  have hb1 : h.up.length ≤ 1152921504606846976 := by have := hr.up; omega
  have hb2 : h.dn.length ≤ 1152921504606846976 := by have := hr.dn; omega
  have hb3 : h.node.length ≤ 1152921504606846976 := by have := hr.node; omega
  obtain ⟨W0, hW0⟩ : ∃ W0, w.alloc (.cells #[.slice v.no h.node.length v.nc, .slice v.uo h.upF.length v.uc, .slice v.ul h.up.length v.ulc, .slice v.wo h.dnF.length v.wc, .slice v.dl h.dn.length v.dlc] 25) = W0 := ⟨_, rfl⟩
  have HW0 : Hid (w.alloc (.cells #[.slice v.no h.node.length v.nc, .slice v.uo h.upF.length v.uc, .slice v.ul h.up.length v.ulc, .slice v.wo h.dnF.length v.wc, .slice v.dl h.dn.length v.dlc] 25) = W0) := hW0
  have hB0 : Below w.heap.size w W0 := by rw [← hW0]; exact (Below.refl _ _).alloc (Nat.le_refl _) _
  have hbx : W0.heap[w.heap.size]? = some (.cells #[.slice v.no h.node.length v.nc, .slice v.uo h.upF.length v.uc, .slice v.ul h.up.length v.ulc, .slice v.wo h.dnF.length v.wc, .slice v.dl h.dn.length v.dlc] 25) := by rw [← hW0]; exact heap_new _ _
  have HX : Hid (∀ wx, Below W0.heap.size W0 wx → (wx.cell? ⟨w.heap.size, 0, none⟩ = some (.slice v.no h.node.length v.nc) ∧ wx.cell? ⟨w.heap.size, 1, none⟩ = some (.slice v.uo h.upF.length v.uc) ∧ wx.cell? ⟨w.heap.size, 2, none⟩ = some (.slice v.ul h.up.length v.ulc) ∧ wx.cell? ⟨w.heap.size, 3, none⟩ = some (.slice v.wo h.dnF.length v.wc) ∧ wx.cell? ⟨w.heap.size, 4, none⟩ = some (.slice v.dl h.dn.length v.dlc)) ∧ w.heap.size < wx.heap.size ∧ Below w.heap.size w wx) := fun wx hb => by
    have q := (hb.block _ (w_lt_get hbx)).trans hbx
    exact ⟨cells5 q, w_lt_get q, hB0.trans (hb.mono hB0.size)⟩
  have HV : Hid (∀ wx, Below W0.heap.size W0 wx → Hi.HasH wx v h) := fun wx hb => hH.keep (HX.out wx hb).2.2
  have HFR : Hid (∀ wx, Below W0.heap.size W0 wx → HasFours wx ∧ 1 < wx.heap.size ∧ HasType wx) := fun wx hb => ⟨fours_keep hf hg (HX.out wx hb).2.2, Nat.lt_of_lt_of_le hg (HX.out wx hb).2.2.size, hty.keep (HX.out wx hb).2.2 hty.pos⟩
  have HAW : Hid (Calls Tryd.prog 7 #[] W0 fun e w' => e = .returned (.bool true) ∧ Below W0.heap.size W0 w') := awake19_calls W0 (HFR.out W0 (Below.refl _ _)).1 (HFR.out W0 (Below.refl _ _)).2.1
  have HGR : Hid (∀ wx, Calls Tryd.prog 8 #[.agg #[.slice v.no h.node.length v.nc, .slice v.uo h.upF.length v.uc, .slice v.ul h.up.length v.ulc, .slice v.wo h.dnF.length v.wc, .slice v.dl h.dn.length v.dlc]] wx fun e w' => e = .returned (.bool (greatI h)) ∧ Below wx.heap.size wx w') := fun wx => great19_calls v h wx hb1 hb2
  by_cases hc : Hi.chk h = (0, [])
  · have hi : ImgOk (imB h) h := imB_ok (small_of_chk hc) (imW_ok (small_of_chk hc) hH)
    have hok : OkH h := ⟨Hi.HasWs.ok hH.node, Hi.HasWs.ok hH.upF, (fun x hx => by obtain ⟨j, hj⟩ := List.getElem?_of_mem hx; exact (hH.up.at hj).1), Hi.HasWs.ok hH.dnF, (fun x hx => by obtain ⟨j, hj⟩ := List.getElem?_of_mem hx; exact (hH.dn.at hj).1)⟩
    have hshort : Hi.Short h := by
      obtain ⟨s1, s2, s3, s4, s5⟩ := small_of_chk hc
      exact ⟨by omega, by omega, by omega, by omega, by omega⟩
    obtain ⟨L, hLe⟩ : ∃ L, imB h = L := ⟨_, rfl⟩
    have HEN : Hid (∀ wx, Below W0.heap.size W0 wx → Calls Tryd.prog 9 #[.agg #[.slice v.no h.node.length v.nc, .slice v.uo h.upF.length v.uc, .slice v.ul h.up.length v.ulc, .slice v.wo h.dnF.length v.wc, .slice v.dl h.dn.length v.dlc]] wx fun e w' => ∃ mo mc, e = .returned (.tuple #[.slice mo L.length mc, .nilIface]) ∧ (HasB w' (.slice mo L.length mc) L ∧ L.length ≤ mc ∧ (mo = none → mc = 0)) ∧ Below wx.heap.size wx w') := fun wx hb => by
      refine (encode_good v h wx (HV.out wx hb) hN hc (HFR.out wx hb).1 (HFR.out wx hb).2.1).mono ?_
      rintro e w' ⟨mo, mc, rfl, ho, hb2⟩
      rw [hLe] at ho ⊢
      exact ⟨mo, mc, rfl, ⟨hasB_own ho, own_cap ho⟩, hb2⟩
    rw [hLe] at hi
    have hL : L.length ≤ 100000000 := by
      have q1 := hi.len
      have q2 := hi.sm.n
      have q3 := hi.sm.u
      have q4 := hi.sm.d
      omega
    have h32 : 32 ≤ L.length := by have := hi.len; omega
    have HEN2 : Hid (∀ wx, Below W0.heap.size W0 wx → Calls Tryd.prog 9 #[.agg #[.slice v.no h.node.length v.nc, .slice v.uo h.upF.length v.uc, .slice v.ul h.up.length v.ulc, .slice v.wo h.dnF.length v.wc, .slice v.dl h.dn.length v.dlc]] wx fun e w' => ∃ g off mc, e = .returned (.tuple #[.slice (some ⟨g, off, none⟩) L.length mc, .nilIface]) ∧ (HasB w' (.slice (some ⟨g, off, none⟩) L.length mc) L ∧ L.length ≤ mc) ∧ Below wx.heap.size wx w') := fun wx hb => by
      refine (HEN.out wx hb).mono ?_
      rintro e w' ⟨mo, mc, rfl, ⟨h1, h2, _⟩, hb2⟩
      obtain ⟨b, off, rfl, _⟩ := h1.at (List.getElem?_eq_getElem (show 0 < L.length by omega))
      exact ⟨b, off, mc, rfl, ⟨h1, h2⟩, hb2⟩
    have HCU : Hid (∀ wx g off mc kn, kn < L.length → Below W0.heap.size W0 wx → HasB wx (.slice (some ⟨g, off, none⟩) L.length mc) L → Calls Tryd.prog 12 #[.slice (some ⟨g, off, none⟩) kn kn] wx fun e w' => ∃ T x, e = .returned (.tuple #[.agg #[.slice none 0 0, .slice none 0 0, .slice none 0 0, .slice none 0 0, .slice none 0 0], .iface T x]) ∧ IsTold w' (10, [(2, (kn : Int))]) (.iface T x) ∧ Below wx.heap.size wx w') := fun wx g off mc kn hk hx h1 => by
      have hlen : (L.take kn).length = kn := by rw [List.length_take]; omega
      have hne : fE (L.take kn) ≠ (0, []) := by rw [img_less hi hk]; simp
      have r := decode_thrown (some ⟨g, off, none⟩) kn (L.take kn) wx (hasB_cut h1 kn) (by omega) (fun x hx => hi.bts x (List.mem_of_mem_take hx)) (by omega) (HFR.out wx hx).1 (HFR.out wx hx).2.1 (HFR.out wx hx).2.2 hne
      rw [img_less hi hk, hlen] at r
      exact r
    have HMO : Hid (∀ wx qo qc, m ≠ [] → Below W0.heap.size W0 wx → HasB wx (.slice qo (L ++ m).length qc) (L ++ m) → (L ++ m).length ≤ qc → Calls Tryd.prog 12 #[.slice qo (L ++ m).length qc] wx fun e w' => ∃ T x, e = .returned (.tuple #[.agg #[.slice none 0 0, .slice none 0 0, .slice none 0 0, .slice none 0 0, .slice none 0 0], .iface T x]) ∧ IsTold w' (6, [(2, (L.length : Int))]) (.iface T x) ∧ Below wx.heap.size wx w') := fun wx qo qc hm0 hx h1 h2 => by
      have hne : fE (L ++ m) ≠ (0, []) := by rw [img_more hi hm0]; simp
      have r := decode_thrown qo qc (L ++ m) wx h1 h2 (hi.bts.app hmb) (by rw [List.length_append]; omega) (HFR.out wx hx).1 (HFR.out wx hx).2.1 (HFR.out wx hx).2.2 hne
      rw [img_more hi hm0] at r
      exact r
    have HTW : Hid (∀ wx g off mc, HasB wx (.slice (some ⟨g, off, none⟩) L.length mc) L → Calls Tryd.prog 14 #[.slice (some ⟨g, off, none⟩) L.length mc] wx fun e w' => ∃ mo mc, e = .returned (.slice mo L.length mc) ∧ w'.ownsRow wx.heap.size 5 1 (.slice mo L.length mc) L.length (bv L) ∧ Below wx.heap.size wx w') := fun wx g off mc h1 => kTwin_calls _ mc L wx h1 (by omega) (fun e => by cases e)
    have HSE : Hid (∀ wx e1 (c i : Int) g, HasType wx → IsTold wx (c, [(2, i)]) e1 → wx.heap[g]? = some (.cells #[.int .i64 2, .int .i64 i] 75) → Calls Tryd.prog 17 #[e1, .agg #[.int .i64 c, .slice (some ⟨g, 0, none⟩) 1 1]] wx fun r w' => r = .returned (.bool true) ∧ Below wx.heap.size wx w') := fun wx e1 c i g ht h1 h2 => seen_told (c, [(2, i)]) e1 (some ⟨g, 0, none⟩) 1 wx h1 (places_atI h2) (show 1 ≤ maxLen by decide) ht
    have HMB : Hid (∀ wx, Below W0.heap.size W0 wx → HasB wx (.slice ao m.length ac) m) := fun wx hx => hml.keep (HX.out wx hx).2.2
    have HLM : Hid (L.length ≤ 100000000 ∧ m.length ≤ 140737488351232 ∧ (L ++ m).length = L.length + m.length) := ⟨hL, hmm, List.length_append⟩
    have hsl : ∀ g off mc kn, kn < L.length → L.length ≤ mc → ∀ wx, (Instr.slice 26 (.slice (some ⟨g, off, none⟩) L.length mc) none (some (.int .i64 ((kn : Nat) : Int))) (some (.int .i64 ((kn : Nat) : Int)))).run Tryd.prog wx = .ok (.slice (some ⟨g, off, none⟩) kn kn) wx := fun g off mc kn h1 h2 wx => slice_cutB g off L.length mc kn h2 (by omega) wx
    have HSL : Hid (type_of% hsl) := hsl
    have HL1 : Hid (0 < L.length) := (by omega : 0 < L.length)
    clear hi hok hshort hLe hsl HEN hml hmb hmm hL h32
    obtain ⟨⟨c0, c1, c2, c3, c4⟩, l0, _⟩ := HX.out W0 (Below.refl _ _)
    clear hW0 hB0 hbx hH hr hN hf hg hty hb1 hb2 hb3 hc 
    unfold Hi.hvl
    go_enter Tryd.func5, Tryd.ntmps5
    go_upto_region 1 with fail
    rw [HW0.out]
    go_wp2_with fail
    refine HAW.out.mono ?_
    rintro e y1 ⟨rfl, hb⟩
    have Y1 : Hid (Below W0.heap.size W0 y1) := hb
    clear hb c0 c1 c2 c3 c4 l0
    obtain ⟨⟨c0, c1, c2, c3, c4⟩, l0, _⟩ := HX.out y1 Y1.out
    go_wp2_with fail
    refine (HGR.out y1).mono ?_
    rintro e y2 ⟨rfl, hb⟩
    have Y2 : Hid (Below W0.heap.size W0 y2) := btrI Y1.out hb
    clear hb c0 c1 c2 c3 c4 l0
    obtain ⟨⟨c0, c1, c2, c3, c4⟩, l0, _⟩ := HX.out y2 Y2.out
    cases greatI h with
    | true =>
      go_wp2
      go_ret
      exact ⟨rfl, (HX.out y2 Y2.out).2.2⟩
    | false =>
      go_wp2_with fail
      refine (HEN2.out y2 Y2.out).mono ?_
      rintro e y3 ⟨g, off, mc, rfl, hp, hb⟩
      have Y3 : Hid (Below W0.heap.size W0 y3 ∧ HasB y3 (.slice (some ⟨g, off, none⟩) L.length mc) L ∧ L.length ≤ mc) := ⟨btrI Y2.out hb, hp⟩
      clear hb hp c0 c1 c2 c3 c4 l0
      by_cases hk : 0 ≤ k ∧ k < (L.length : Int)
      · obtain ⟨kn, rfl⟩ : ∃ kn : Nat, k = (kn : Int) := ⟨k.toNat, by omega⟩
        have hkn : kn < L.length := by omega
        have hk3 : decide (kn < L.length) = true := decide_eq_true hkn
        have hk4 : decide ((0 : Int) ≤ (kn : Int)) = true := decide_eq_true (by omega)
        have hk5 : decide ((kn : Int) < (L.length : Int)) = true := decide_eq_true (by omega)
        have hsl := HSL.out g off mc kn hkn Y3.out.2.2
        have HKN : Hid (kn < L.length) := hkn
        clear hk hkn
        go_wp2_with fail
        refine (HCU.out y3 g off mc kn HKN.out Y3.out.1 Y3.out.2.1).mono ?_
        rintro e y4 ⟨T, x, rfl, ht, hb⟩
        have Y4 : Hid (Below y3.heap.size y3 y4 ∧ IsTold y4 (10, [(2, (kn : Int))]) (.iface T x)) := ⟨hb, ht⟩
        clear ht hb hsl
        obtain ⟨W5, hW5⟩ : ∃ W5, y4.alloc (.cells #[.slice none 0 0, .slice none 0 0, .slice none 0 0, .slice none 0 0, .slice none 0 0] 25) = W5 := ⟨_, rfl⟩
        have HW5 : Hid (y4.alloc (.cells #[.slice none 0 0, .slice none 0 0, .slice none 0 0, .slice none 0 0, .slice none 0 0] 25) = W5) := hW5
        have b5 : Hid (Below y4.heap.size y4 W5) := by rw [← hW5]; exact (Below.refl _ _).alloc (Nat.le_refl _) _
        clear hW5
        go_upto_region 10 with fail
        rw [HW5.out]
        go_wp2_with fail
        refine (E_calls 10 W5).mono ?_
        rintro e y5 ⟨rfl, hb⟩
        have Y5 : Hid (Below y4.heap.size y4 y5) := btrI b5.out hb
        clear hb
        go_wp2_with fail
        refine (refAt_calls 2 (kn : Int) 10 y5).mono ?_
        rintro e y6 ⟨g6, rfl, hg6, hb⟩
        have Y6 : Hid (Below y4.heap.size y4 y6 ∧ y6.heap[g6]? = some (.cells #[.int .i64 2, .int .i64 (kn : Int)] 75)) := ⟨btrI Y5.out hb, hg6⟩
        clear hb hg6
        go_wp2_with fail
        refine (HSE.out y6 _ 10 (kn : Int) g6 (HFR.out y6 (btrI Y3.out.1 (btrI Y4.out.1 Y6.out.1))).2.2 (Y4.out.2.keep (Below.keeps Y6.out.1)) Y6.out.2).mono ?_
        rintro e y7 ⟨rfl, hb⟩
        have ZZ : Hid (Below W0.heap.size W0 y7 ∧ HasB y7 (.slice (some ⟨g, off, none⟩) L.length mc) L) := ⟨btrI Y3.out.1 (btrI Y4.out.1 (btrI Y6.out.1 hb)), Y3.out.2.1.keep (btrI Y4.out.1 (btrI Y6.out.1 hb))⟩
        clear hb hk3 hk4 hk5
        cases m with
        | nil =>
          go_wp2
          go_ret
          exact ⟨rfl, (HX.out y7 ZZ.out.1).2.2⟩
        | cons ma mr =>
          have HNE : Hid (ma :: mr ≠ []) := List.cons_ne_nil _ _
          obtain ⟨ab, ag, rfl⟩ : ∃ ab ag, ao = some ⟨ab, ag, none⟩ := by
            obtain ⟨b, off, e, _⟩ := (HMB.out y7 ZZ.out.1).at (show (ma :: mr)[0]? = some ma from rfl)
            exact ⟨b, off, e⟩
          have hmp : 0 < (ma :: mr).length := Nat.succ_pos _
          generalize (ma :: mr) = m at *
          obtain ⟨LM, hLM⟩ : ∃ LM, L ++ m = LM := ⟨_, rfl⟩
          have HLE : Hid (L ++ m = LM) := hLM
          have HMP : Hid (∀ wx qo qc, Below W0.heap.size W0 wx → HasB wx (.slice qo LM.length qc) LM → LM.length ≤ qc → Calls Tryd.prog 12 #[.slice qo LM.length qc] wx fun e w' => ∃ T x, e = .returned (.tuple #[.agg #[.slice none 0 0, .slice none 0 0, .slice none 0 0, .slice none 0 0, .slice none 0 0], .iface T x]) ∧ IsTold w' (6, [(2, (L.length : Int))]) (.iface T x) ∧ Below wx.heap.size wx w') := by
            rw [← hLM]
            exact fun wx qo qc h1 h2 h3 => HMO.out wx qo qc HNE.out h1 h2 h3
          clear hLM
          have dm : ((m.length : Int) == 0) = false := by rw [beq_eq_false_iff_ne]; omega
          have dm2 : decide (m.length = 0) = false := decide_eq_false (by omega)
          go_wp2_with fail
          refine (HTW.out y7 g off mc ZZ.out.2).mono ?_
          rintro e t1 ⟨ro, rc, rfl, ho, hb⟩
          have T1 : Hid (Below W0.heap.size W0 t1 ∧ t1.ownsRow y7.heap.size 5 1 (.slice ro L.length rc) L.length (bv L)) := ⟨btrI ZZ.out.1 hb, ho⟩
          have T1b : Hid (y7.heap.size ≤ t1.heap.size) := hb.size
          clear ho hb
          go_wp2_with (at_builtin; refine wpList_append_far rfl _ _ rfl y7.heap.size (.slice ro L.length rc) L rfl T1.out.2 ⟨ab, ag, none⟩ ac m rfl (HMB.out t1 T1.out.1) HLM.out.1 (by have := HLM.out.2.1; omega) T1b.out ?_; intro v5 t2 hown5 hgr5; rw [HLE.out] at hown5; have T2 : Hid (t2.ownsRow y7.heap.size 5 1 v5 LM.length (bv LM) ∧ Below W0.heap.size W0 t2) := ⟨hown5, Hi.below_grown T1.out.1 (row_low T1.out.2 ZZ.out.1.size) hgr5 T1.out.1.size⟩; clear hown5 hgr5; obtain ⟨so, sc, hv5⟩ := Hi.own_slice T2.out.1; subst hv5)
          have T3 : Hid (HasB t2 (.slice so LM.length sc) LM ∧ LM.length ≤ sc) := ⟨hasB_own T2.out.1, (own_cap T2.out.1).1⟩
          refine (HMP.out t2 so sc T2.out.2 T3.out.1 T3.out.2).mono ?_
          rintro e t4 ⟨T, x, rfl, ht, hb⟩
          have T4 : Hid (Below W0.heap.size W0 t4 ∧ IsTold t4 (6, [(2, (L.length : Int))]) (.iface T x)) := ⟨btrI T2.out.2 hb, ht⟩
          clear ht hb
          go_wp2_with fail
          refine (E_calls 6 t4).mono ?_
          rintro e t5 ⟨rfl, hb⟩
          have T5 : Hid (Below t4.heap.size t4 t5) := hb
          clear hb
          go_wp2_with fail
          refine (refAt_calls 2 (L.length : Int) 6 t5).mono ?_
          rintro e t6 ⟨g6, rfl, hg6, hb⟩
          have T6 : Hid (Below t4.heap.size t4 t6 ∧ t6.heap[g6]? = some (.cells #[.int .i64 2, .int .i64 (L.length : Int)] 75)) := ⟨btrI T5.out hb, hg6⟩
          clear hb hg6
          go_wp2_with fail
          refine (HSE.out t6 _ 6 (L.length : Int) g6 (HFR.out t6 (btrI T4.out.1 T6.out.1)).2.2 (T4.out.2.keep (Below.keeps T6.out.1)) T6.out.2).mono ?_
          rintro e t7 ⟨rfl, hb⟩
          have T7 : Hid (Below w.heap.size w t7) := (HX.out t7 (btrI T4.out.1 (btrI T6.out.1 hb))).2.2
          clear hb
          go_wp2
          go_ret
          exact ⟨rfl, T7.out⟩
      · have ZZ : Hid (Below W0.heap.size W0 y3 ∧ HasB y3 (.slice (some ⟨g, off, none⟩) L.length mc) L) := ⟨Y3.out.1, Y3.out.2.1⟩
        by_cases hk0 : 0 ≤ k
        · have hk4 : decide ((0 : Int) ≤ k) = true := decide_eq_true hk0
          have hk5 : decide (k < (L.length : Int)) = false := decide_eq_false (by omega)
          clear hk
          cases m with
          | nil =>
            go_wp2
            go_ret
            exact ⟨rfl, (HX.out y3 ZZ.out.1).2.2⟩
          | cons ma mr =>
            have HNE : Hid (ma :: mr ≠ []) := List.cons_ne_nil _ _
            obtain ⟨ab, ag, rfl⟩ : ∃ ab ag, ao = some ⟨ab, ag, none⟩ := by
              obtain ⟨b, off, e, _⟩ := (HMB.out y3 ZZ.out.1).at (show (ma :: mr)[0]? = some ma from rfl)
              exact ⟨b, off, e⟩
            have hmp : 0 < (ma :: mr).length := Nat.succ_pos _
            generalize (ma :: mr) = m at *
            obtain ⟨LM, hLM⟩ : ∃ LM, L ++ m = LM := ⟨_, rfl⟩
            have HLE : Hid (L ++ m = LM) := hLM
            have HMP : Hid (∀ wx qo qc, Below W0.heap.size W0 wx → HasB wx (.slice qo LM.length qc) LM → LM.length ≤ qc → Calls Tryd.prog 12 #[.slice qo LM.length qc] wx fun e w' => ∃ T x, e = .returned (.tuple #[.agg #[.slice none 0 0, .slice none 0 0, .slice none 0 0, .slice none 0 0, .slice none 0 0], .iface T x]) ∧ IsTold w' (6, [(2, (L.length : Int))]) (.iface T x) ∧ Below wx.heap.size wx w') := by
              rw [← hLM]
              exact fun wx qo qc h1 h2 h3 => HMO.out wx qo qc HNE.out h1 h2 h3
            clear hLM
            have dm : ((m.length : Int) == 0) = false := by rw [beq_eq_false_iff_ne]; omega
            have dm2 : decide (m.length = 0) = false := decide_eq_false (by omega)
            go_wp2_with fail
            refine (HTW.out y3 g off mc ZZ.out.2).mono ?_
            rintro e t1 ⟨ro, rc, rfl, ho, hb⟩
            have T1 : Hid (Below W0.heap.size W0 t1 ∧ t1.ownsRow y3.heap.size 5 1 (.slice ro L.length rc) L.length (bv L)) := ⟨btrI ZZ.out.1 hb, ho⟩
            have T1b : Hid (y3.heap.size ≤ t1.heap.size) := hb.size
            clear ho hb
            go_wp2_with (at_builtin; refine wpList_append_far rfl _ _ rfl y3.heap.size (.slice ro L.length rc) L rfl T1.out.2 ⟨ab, ag, none⟩ ac m rfl (HMB.out t1 T1.out.1) HLM.out.1 (by have := HLM.out.2.1; omega) T1b.out ?_; intro v5 t2 hown5 hgr5; rw [HLE.out] at hown5; have T2 : Hid (t2.ownsRow y3.heap.size 5 1 v5 LM.length (bv LM) ∧ Below W0.heap.size W0 t2) := ⟨hown5, Hi.below_grown T1.out.1 (row_low T1.out.2 ZZ.out.1.size) hgr5 T1.out.1.size⟩; clear hown5 hgr5; obtain ⟨so, sc, hv5⟩ := Hi.own_slice T2.out.1; subst hv5)
            have T3 : Hid (HasB t2 (.slice so LM.length sc) LM ∧ LM.length ≤ sc) := ⟨hasB_own T2.out.1, (own_cap T2.out.1).1⟩
            refine (HMP.out t2 so sc T2.out.2 T3.out.1 T3.out.2).mono ?_
            rintro e t4 ⟨T, x, rfl, ht, hb⟩
            have T4 : Hid (Below W0.heap.size W0 t4 ∧ IsTold t4 (6, [(2, (L.length : Int))]) (.iface T x)) := ⟨btrI T2.out.2 hb, ht⟩
            clear ht hb
            go_wp2_with fail
            refine (E_calls 6 t4).mono ?_
            rintro e t5 ⟨rfl, hb⟩
            have T5 : Hid (Below t4.heap.size t4 t5) := hb
            clear hb
            go_wp2_with fail
            refine (refAt_calls 2 (L.length : Int) 6 t5).mono ?_
            rintro e t6 ⟨g6, rfl, hg6, hb⟩
            have T6 : Hid (Below t4.heap.size t4 t6 ∧ t6.heap[g6]? = some (.cells #[.int .i64 2, .int .i64 (L.length : Int)] 75)) := ⟨btrI T5.out hb, hg6⟩
            clear hb hg6
            go_wp2_with fail
            refine (HSE.out t6 _ 6 (L.length : Int) g6 (HFR.out t6 (btrI T4.out.1 T6.out.1)).2.2 (T4.out.2.keep (Below.keeps T6.out.1)) T6.out.2).mono ?_
            rintro e t7 ⟨rfl, hb⟩
            have T7 : Hid (Below w.heap.size w t7) := (HX.out t7 (btrI T4.out.1 (btrI T6.out.1 hb))).2.2
            clear hb
            go_wp2
            go_ret
            exact ⟨rfl, T7.out⟩
        · have hk4 : decide ((0 : Int) ≤ k) = false := decide_eq_false hk0
          clear hk
          cases m with
          | nil =>
            go_wp2
            go_ret
            exact ⟨rfl, (HX.out y3 ZZ.out.1).2.2⟩
          | cons ma mr =>
            have HNE : Hid (ma :: mr ≠ []) := List.cons_ne_nil _ _
            obtain ⟨ab, ag, rfl⟩ : ∃ ab ag, ao = some ⟨ab, ag, none⟩ := by
              obtain ⟨b, off, e, _⟩ := (HMB.out y3 ZZ.out.1).at (show (ma :: mr)[0]? = some ma from rfl)
              exact ⟨b, off, e⟩
            have hmp : 0 < (ma :: mr).length := Nat.succ_pos _
            generalize (ma :: mr) = m at *
            obtain ⟨LM, hLM⟩ : ∃ LM, L ++ m = LM := ⟨_, rfl⟩
            have HLE : Hid (L ++ m = LM) := hLM
            have HMP : Hid (∀ wx qo qc, Below W0.heap.size W0 wx → HasB wx (.slice qo LM.length qc) LM → LM.length ≤ qc → Calls Tryd.prog 12 #[.slice qo LM.length qc] wx fun e w' => ∃ T x, e = .returned (.tuple #[.agg #[.slice none 0 0, .slice none 0 0, .slice none 0 0, .slice none 0 0, .slice none 0 0], .iface T x]) ∧ IsTold w' (6, [(2, (L.length : Int))]) (.iface T x) ∧ Below wx.heap.size wx w') := by
              rw [← hLM]
              exact fun wx qo qc h1 h2 h3 => HMO.out wx qo qc HNE.out h1 h2 h3
            clear hLM
            have dm : ((m.length : Int) == 0) = false := by rw [beq_eq_false_iff_ne]; omega
            have dm2 : decide (m.length = 0) = false := decide_eq_false (by omega)
            go_wp2_with fail
            refine (HTW.out y3 g off mc ZZ.out.2).mono ?_
            rintro e t1 ⟨ro, rc, rfl, ho, hb⟩
            have T1 : Hid (Below W0.heap.size W0 t1 ∧ t1.ownsRow y3.heap.size 5 1 (.slice ro L.length rc) L.length (bv L)) := ⟨btrI ZZ.out.1 hb, ho⟩
            have T1b : Hid (y3.heap.size ≤ t1.heap.size) := hb.size
            clear ho hb
            go_wp2_with (at_builtin; refine wpList_append_far rfl _ _ rfl y3.heap.size (.slice ro L.length rc) L rfl T1.out.2 ⟨ab, ag, none⟩ ac m rfl (HMB.out t1 T1.out.1) HLM.out.1 (by have := HLM.out.2.1; omega) T1b.out ?_; intro v5 t2 hown5 hgr5; rw [HLE.out] at hown5; have T2 : Hid (t2.ownsRow y3.heap.size 5 1 v5 LM.length (bv LM) ∧ Below W0.heap.size W0 t2) := ⟨hown5, Hi.below_grown T1.out.1 (row_low T1.out.2 ZZ.out.1.size) hgr5 T1.out.1.size⟩; clear hown5 hgr5; obtain ⟨so, sc, hv5⟩ := Hi.own_slice T2.out.1; subst hv5)
            have T3 : Hid (HasB t2 (.slice so LM.length sc) LM ∧ LM.length ≤ sc) := ⟨hasB_own T2.out.1, (own_cap T2.out.1).1⟩
            refine (HMP.out t2 so sc T2.out.2 T3.out.1 T3.out.2).mono ?_
            rintro e t4 ⟨T, x, rfl, ht, hb⟩
            have T4 : Hid (Below W0.heap.size W0 t4 ∧ IsTold t4 (6, [(2, (L.length : Int))]) (.iface T x)) := ⟨btrI T2.out.2 hb, ht⟩
            clear ht hb
            go_wp2_with fail
            refine (E_calls 6 t4).mono ?_
            rintro e t5 ⟨rfl, hb⟩
            have T5 : Hid (Below t4.heap.size t4 t5) := hb
            clear hb
            go_wp2_with fail
            refine (refAt_calls 2 (L.length : Int) 6 t5).mono ?_
            rintro e t6 ⟨g6, rfl, hg6, hb⟩
            have T6 : Hid (Below t4.heap.size t4 t6 ∧ t6.heap[g6]? = some (.cells #[.int .i64 2, .int .i64 (L.length : Int)] 75)) := ⟨btrI T5.out hb, hg6⟩
            clear hb hg6
            go_wp2_with fail
            refine (HSE.out t6 _ 6 (L.length : Int) g6 (HFR.out t6 (btrI T4.out.1 T6.out.1)).2.2 (T4.out.2.keep (Below.keeps T6.out.1)) T6.out.2).mono ?_
            rintro e t7 ⟨rfl, hb⟩
            have T7 : Hid (Below w.heap.size w t7) := (HX.out t7 (btrI T4.out.1 (btrI T6.out.1 hb))).2.2
            clear hb
            go_wp2
            go_ret
            exact ⟨rfl, T7.out⟩
  · have HEN : Hid (∀ wx, Below W0.heap.size W0 wx → Calls Tryd.prog 9 #[.agg #[.slice v.no h.node.length v.nc, .slice v.uo h.upF.length v.uc, .slice v.ul h.up.length v.ulc, .slice v.wo h.dnF.length v.wc, .slice v.dl h.dn.length v.dlc]] wx fun e w' => ∃ T x, e = .returned (.tuple #[.slice none 0 0, .iface T x]) ∧ Below wx.heap.size wx w') := fun wx hb => by
      refine (encode_bad v h wx (HV.out wx hb) hb1 hb2 hb3 hc).mono ?_
      rintro e w' ⟨T, x, rfl, _, hb2⟩
      exact ⟨T, x, rfl, hb2⟩
    obtain ⟨⟨c0, c1, c2, c3, c4⟩, l0, _⟩ := HX.out W0 (Below.refl _ _)
    clear hW0 hB0 hbx hH hr hN hf hg hty hb1 hb2 hb3 hc 
    unfold Hi.hvl
    go_enter Tryd.func5, Tryd.ntmps5
    go_upto_region 1 with fail
    rw [HW0.out]
    go_wp2_with fail
    refine HAW.out.mono ?_
    rintro e y1 ⟨rfl, hb⟩
    have Y1 : Hid (Below W0.heap.size W0 y1) := hb
    clear hb c0 c1 c2 c3 c4 l0
    obtain ⟨⟨c0, c1, c2, c3, c4⟩, l0, _⟩ := HX.out y1 Y1.out
    go_wp2_with fail
    refine (HGR.out y1).mono ?_
    rintro e y2 ⟨rfl, hb⟩
    have Y2 : Hid (Below W0.heap.size W0 y2) := btrI Y1.out hb
    clear hb c0 c1 c2 c3 c4 l0
    obtain ⟨⟨c0, c1, c2, c3, c4⟩, l0, _⟩ := HX.out y2 Y2.out
    cases greatI h with
    | true =>
      go_wp2
      go_ret
      exact ⟨rfl, (HX.out y2 Y2.out).2.2⟩
    | false =>
      go_wp2_with fail
      refine (HEN.out y2 Y2.out).mono ?_
      rintro e y3 ⟨T, x, rfl, hb⟩
      have Y3 : Hid (Below W0.heap.size W0 y3) := btrI Y2.out hb
      clear hb c0 c1 c2 c3 c4 l0
      go_wp2
      go_ret
      exact ⟨rfl, (HX.out y3 Y3.out).2.2⟩
end Go.Proofs.YtamedcnjanichaaDoor
