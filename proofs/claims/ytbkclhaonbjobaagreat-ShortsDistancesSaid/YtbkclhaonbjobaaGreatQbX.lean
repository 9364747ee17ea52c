/- a row's add and living. a row's lose. an overlay in memory; what only reads it. an overlay's Out, In, Weight. -/
import Derived.Test.YtbkclhaonbjobaaGreatQaX
namespace Go.Proofs.YtbkclhaonbjobaaGreat
open Go.RowKit Go.Extern Go.Sort

attribute [local go_sem] Oper.semAt_some

/-- append of halves onto a row of one's own, as one step of a region that draws: where it stands then. -/
theorem step_append_hsa {w : World} {ops : Array Oper} {o : Oper} {a : Act} {K : Act → World → Prop} {Q : Exit → Act → World → Prop} {E : Prop} (hg : o.guard = none) (s x : Operand)
    (ho : o.op = .call { callee := .builtin .append, args := #[s, x], argTypes := #[45, 45] }) (base : Nat) (v : Value) (L : List (Int × Int × Int)) (hs : a.eval s = v) (hown : w.ownsRow base 49 3 v L.length (flatH L))
    (ad : Addr) (ac : Nat) (xs : List (Int × Int × Int)) (hx : a.eval x = .slice (some ad) xs.length ac) (hl : HasHs w (.slice (some ad) xs.length ac) xs) (hlen : L.length + xs.length ≤ 1048576) (hbase : base ≤ w.heap.size)
    (h : ∀ v' w', w'.ownsRow base 49 3 v' (L ++ xs).length (flatH (L ++ xs)) → w.grownBy w' v.ownBlock → (∀ k, v'.ownBlock = some k → v.ownBlock = some k ∨ w.heap.size ≤ k) → K (a.put o.dst v') w') :
    if Region.wanted o (yielded ops a.tmps) = true then Oper.wp Tryz.prog o a w K Q else E := by
  have hw : Region.wanted o (yielded ops a.tmps) = true := by simp [Region.wanted, hg]
  rw [if_pos hw]
  obtain ⟨i0, hi, hz0, hz1, hz2⟩ : ∃ i, Tryz.prog.info? 49 = some i ∧ i.zero = some (.agg #[.int .i64 0, .int .u64 0, .int .i64 0]) ∧ i.size = 3 ∧ i.bytes = 24 := by
    have h := Tryz.infoH
    cases hi : Tryz.prog.info? 49 with
    | none => rw [hi] at h; cases h
    | some i => rw [hi] at h; simp at h; exact ⟨i, rfl, h.1, h.2.1, h.2.2⟩
  obtain ⟨v', w', hr, h2, h3, _, h5⟩ := run_append_own_at (P := Tryz.prog) w base 45 o.type 49 i0 _ 3 24 Tryz.underlying45 hi hz0 hz1 hz2 rfl (by decide) v L.length (flatH L) hown ad xs.length ac (flatH xs) (flatH_len xs) (flatH_at hl) (flatH_one xs) (by unfold maxLen; omega) (by omega) hbase
  unfold Oper.wp execOp
  simp only [ho, resolve, invoke, builtin, Sem.run_bind, Sem.run_pure, Result.andThen_ok, List.map_toArray, List.map_cons, List.map_nil, hs, hx, hr]
  exact h v' w' (by rw [List.length_append, flatH_append]; exact h2) h3 (fun k hk => by
    rcases h5 with h5 | h5
    · exact Or.inl (h5 ▸ hk)
    · rw [h5] at hk
      cases hk
      exact Or.inr (Nat.le_refl _))

set_option maxHeartbeats 1000000 in
theorem add_calls (B rb ro : Nat) (cur : Array Value) (T : TypeId) (v : Value) (gn : Nat) (l : List H3) (h : H3) (w : World) (hrow : w.heap[rb]? = some (.cells cur T (0, 0))) (hv : cur[ro]? = some v) (hgn : cur[ro + 1]? = some (.int .i64 gn)) (ho : w.ownsRow B 49 3 v l.length (flatH l)) (hne : v.ownBlock ≠ some rb) (hB : B ≤ w.heap.size) (hl : l.length ≤ 262144) :
    Calls Tryz.prog 27 #[.pointer (some ⟨rb, ro, none⟩), hV h] w fun e w' => e = .returned (.tuple #[]) ∧ ∃ v', w'.ownsRow B 49 3 v' (l ++ [h]).length (flatH (l ++ [h])) ∧ Moved w w' rb ro cur T v v' gn := by
  have hlt := lt_of_get hrow
  obtain ⟨ao, c, rfl⟩ := rowH_slice ho
  obtain ⟨W0, hW0⟩ : ∃ W0, w.alloc (.cells #[.int .i64 h.1, .int .u64 h.2.1, .int .i64 h.2.2] 49) = W0 := ⟨_, rfl⟩
  have hb0 : Below w.heap.size w W0 := by rw [← hW0]; exact (Below.refl _ w).alloc (Nat.le_refl _) _
  have hz0 : W0.heap.size = w.heap.size + 1 := by rw [← hW0]; show (w.heap.push _).size = _; simp
  have hq0 : W0.heap[w.heap.size]? = some (.cells (hC h).toArray 49 (0, 0)) := by rw [← hW0]; exact heap_new w _
  have hr0 : W0.heap[rb]? = some (.cells cur T (0, 0)) := (hb0.block rb hlt).trans hrow
  have hbW : Below w.heap.size w (W0.drew.alloc (.cells #[.int .i64 h.1, .int .u64 h.2.1, .int .i64 h.2.2] 49)) := hb0.drew.alloc (by show w.heap.size ≤ W0.heap.size; omega) _
  have hsz : (W0.drew.alloc (.cells #[.int .i64 h.1, .int .u64 h.2.1, .int .i64 h.2.2] 49)).heap.size = w.heap.size + 2 := by show (W0.heap.push _).size = _; simp [hz0]
  have hso := hs_one W0.drew h 49
  have HX : Hid ((W0.drew.alloc (.cells #[.int .i64 h.1, .int .u64 h.2.1, .int .i64 h.2.2] 49)).ownsRow B 49 3 (.slice ao l.length c) l.length (flatH l) ∧ HasHs (W0.drew.alloc (.cells #[.int .i64 h.1, .int .u64 h.2.1, .int .i64 h.2.2] 49)) (.slice (some ⟨W0.heap.size, 0, none⟩) 1 1) [h] ∧ B ≤ (W0.drew.alloc (.cells #[.int .i64 h.1, .int .u64 h.2.1, .int .i64 h.2.2] 49)).heap.size) := ⟨rowH_keep ho hbW, hso, by omega⟩
  have HFI : Hid (∀ v' w', w'.ownsRow B 49 3 v' (l ++ [h]).length (flatH (l ++ [h])) → (W0.drew.alloc (.cells #[.int .i64 h.1, .int .u64 h.2.1, .int .i64 h.2.2] 49)).grownBy w' (Value.slice ao l.length c).ownBlock → (∀ k, v'.ownBlock = some k → (Value.slice ao l.length c).ownBlock = some k ∨ (W0.drew.alloc (.cells #[.int .i64 h.1, .int .u64 h.2.1, .int .i64 h.2.2] 49)).heap.size ≤ k) →
      (w'.setCell ⟨rb, ro, none⟩ v').ownsRow B 49 3 v' (l ++ [h]).length (flatH (l ++ [h])) ∧ Moved w (w'.setCell ⟨rb, ro, none⟩ v') rb ro cur T (Value.slice ao l.length c) v' gn ∧ w'.cell? ⟨rb, ro, none⟩ = some (.slice ao l.length c) ∧ w'.frozen? ⟨rb, ro, none⟩ = false ∧ rb < w'.heap.size) := fun v' w2 o1 gr fr => by
    have hne' : v'.ownBlock ≠ some rb := fun e => by
      rcases fr rb e with h | h
      · exact hne h
      · omega
    have hr2 : w2.heap[rb]? = some (.cells cur T (0, 0)) := by rw [gr.block rb (by omega) (fun e => hne e.symm), hbW.block rb hlt]; exact hrow
    exact ⟨own_set o1 hne' _, moved_of hbW gr hrow hgn hne fr, by simpa [World.cell?, hr2] using hv, by simp [World.frozen?, hr2], lt_of_get hr2⟩
  have d0 : W0.cell? ⟨rb, ro, none⟩ = some (.slice ao l.length c) := by simpa [World.cell?, hr0] using hv
  have g0 : W0.cell? ⟨w.heap.size, 0, none⟩ = some (.int .i64 h.1) := by simp [World.cell?, hq0, hC]
  have g1 : W0.cell? ⟨w.heap.size, 1, none⟩ = some (.int .u64 h.2.1) := by simp [World.cell?, hq0, hC]
  have g2 : W0.cell? ⟨w.heap.size, 2, none⟩ = some (.int .i64 h.2.2) := by simp [World.cell?, hq0, hC]
  have l0 : rb < W0.heap.size := lt_of_get hr0
  have l1 : w.heap.size < W0.heap.size := lt_of_get hq0
  have HW : Hid (w.alloc (.cells #[.int .i64 h.1, .int .u64 h.2.1, .int .i64 h.2.2] 49) = W0) := hW0
  unfold hV
  clear hW0 hb0 hz0 hq0 hr0 hbW hsz hso ho hne hv hgn hrow hlt
  go_enter Tryz.func27, Tryz.ntmps27
  go_wp2_with fail
  rw [HW.out]
  go_region_law (first | (refine step_append_hsa rfl _ _ rfl B (.slice ao l.length c) l rfl HX.out.1 ⟨W0.heap.size, 0, none⟩ 1 [h] rfl HX.out.2.1 (by simp only [List.length_cons, List.length_nil]; omega) HX.out.2.2 ?_; intro v3 w3 hown3 hgr3 hfr3; obtain ⟨x1, x2, x3, x4, x5⟩ := HFI.out v3 w3 hown3 hgr3 hfr3; obtain ⟨po, pc, hv3⟩ := rowH_slice hown3; subst hv3; have Y3 : Hid (type_of% (And.intro x1 x2)) := ⟨x1, x2⟩; clear hown3 hgr3 hfr3 x1 x2))
  all_goals
    go_wp2
    exact bodyPost_end (v := .tuple #[]) (by simp [results, Tryz.results27]) rfl ⟨rfl, .slice po (l.length + 1) pc, by have h3 := Y3.out.1; simp only [List.length_append, List.length_cons, List.length_nil, Nat.zero_add] at h3 ⊢; exact h3, by have h3 := Y3.out.2; simp only [List.length_append, List.length_cons, List.length_nil, Nat.zero_add] at h3; exact h3⟩
/-- flags in memory, a block of its own. -/
def bC (bs : List Bool) : Array Value := (bs.map Value.bool).toArray
/-- the halves whose ends are alive. -/
def livH (bs : List Bool) (l : List H3) : List H3 := l.filter fun a => bs[a.1.toNat]?.getD false
theorem livH_take_succ {bs : List Bool} {l : List H3} {k : Nat} {a : H3} (h : l[k]? = some a) : livH bs (l.take (k + 1)) = livH bs (l.take k) ++ (if bs[a.1.toNat]?.getD false then [a] else []) := by
  rw [List.take_add_one, h]
  unfold livH
  rw [List.filter_append]
  congr 1
  simp [List.filter_cons]
theorem livH_len (bs : List Bool) (l : List H3) : (livH bs l).length ≤ l.length := List.length_filter_le _ _

theorem make_hs (n : Nat) (hn : n ≤ 262144) : ∃ cs : Array Value, cs.size = n * 3 ∧ ∀ w, (Instr.makeSlice 45 (.int .i64 0) (.int .i64 (n : Int))).run Tryz.prog w = .ok (.slice (some ⟨w.heap.size, 0, none⟩) 0 n) (w.alloc (.cells cs 49)) := by
  obtain ⟨i, hi, hzz⟩ := Option.map_eq_some_iff.1 Tryz.infoH
  simp only [Prod.mk.injEq] at hzz
  obtain ⟨hz, hs, hb⟩ := hzz
  refine ⟨madeCells #[.int .i64 0, .int .u64 0, .int .i64 0] (n * 3), by simp [size_madeCells], fun w => ?_⟩
  have hr := run_make (P := Tryz.prog) w 45 49 i _ Tryz.underlying45 hi hz .i64 .i64 0 n (by omega) (by omega) (by rw [hb]; omega) (by omega)
  simp only [Int.toNat_natCast, hs] at hr
  rw [hr]
  rfl
theorem alive_at {w : World} {ab m : Nat} {TB : TypeId} {bs : List Bool} (h : w.heap[ab]? = some (.cells (bC bs) TB (0, 0))) (hm : m < bs.length) : w.cell? ⟨ab, m, none⟩ = some (.bool (bs[m]?.getD false)) := by
  simp [World.cell?, h, bC, List.getElem?_eq_getElem hm]

set_option maxRecDepth 100000 in
set_option maxHeartbeats 2000000 in
theorem living_calls (rb ro ab : Nat) (cur : Array Value) (T TB : TypeId) (v : Value) (gn : Nat) (l : List H3) (bs : List Bool) (w : World) (hrow : w.heap[rb]? = some (.cells cur T (0, 0))) (hv : cur[ro]? = some v) (hgn : cur[ro + 1]? = some (.int .i64 gn)) (hh : HasHs w v l) (hab : w.heap[ab]? = some (.cells (bC bs) TB (0, 0))) (hg : gn ≤ l.length) (hl : l.length ≤ 262144) (hn : ∀ a ∈ l, 0 ≤ a.1 ∧ a.1 < (bs.length : Int)) :
    Calls Tryz.prog 31 #[.pointer (some ⟨rb, ro, none⟩), .slice (some ⟨ab, 0, none⟩) bs.length bs.length] w fun e w' => ∃ v', e = .returned v' ∧ w'.ownsRow w.heap.size 49 3 v' (livH bs l).length (flatH (livH bs l)) ∧ Below w.heap.size w w' := by
  obtain ⟨ao, c, rfl, -⟩ := id hh
  have d0 : w.cell? ⟨rb, ro, none⟩ = some (.slice ao l.length c) := by simpa [World.cell?, hrow] using hv
  have d1 : w.cell? ⟨rb, ro + 1, none⟩ = some (.int .i64 gn) := by simpa [World.cell?, hrow] using hgn
  have l0 : rb < w.heap.size := lt_of_get hrow
  have HM : Hid (HasHs w (.slice ao l.length c) l ∧ w.heap[ab]? = some (.cells (bC bs) TB (0, 0)) ∧ ∀ a ∈ l, 0 ≤ a.1 ∧ a.1 < (bs.length : Int)) := ⟨hh, hab, hn⟩
  have i0 : IntKind.i64.wrap ((l.length : Int) - (gn : Int)) = ((l.length - gn : Nat) : Int) := by rw [IntKind.wrap_i64] <;> omega
  obtain ⟨cs, hcs, hmk⟩ := make_hs (l.length - gn) (by omega)
  have HMK : Hid (∀ W1, (w.alloc (.cells cs 49)).drew = W1 → Below w.heap.size w W1 ∧ W1.ownsRow w.heap.size 49 3 (.slice (some ⟨w.heap.size, 0, none⟩) 0 (l.length - gn)) 0 []) := fun W1 e => by
    subst e
    exact ⟨((Below.refl _ w).alloc (Nat.le_refl _) _).drew, World.ownsRow_made w cs (l.length - gn) (Nat.le_refl _) (by unfold maxLen; omega) hcs⟩
  clear hrow hv hgn hh hab hn
  go_enter Tryz.func31, Tryz.ntmps31
  go_wp2_with fail
  go_region_held3 (fun w' => w'.cell? ⟨rb, ro, none⟩ = some (.slice ao l.length c) ∧ w'.cell? ⟨rb, ro + 1, none⟩ = some (.int .i64 gn)) (go_keep) (first | fail)
  generalize hW1 : (w.alloc (.cells cs 49)).drew = W1
  have H1 := HMK.out W1 hW1
  have d2 : W1.cell? ⟨rb, ro, none⟩ = some (.slice ao l.length c) := (H1.1.cell (p := ⟨rb, ro, none⟩) l0).trans d0
  have HW1 : Hid (Below w.heap.size w W1 ∧ W1.ownsRow w.heap.size 49 3 (.slice (some ⟨w.heap.size, 0, none⟩) 0 (l.length - gn)) 0 []) := H1
  clear H1 hW1 HMK hmk
  go_wp2_with fail
  go_loopw [24, 5] (fun iv lv wr => ∃ k po pc, k ≤ l.length ∧ iv = .int .i64 (k : Nat) ∧ lv = .slice po (livH bs (l.take k)).length pc ∧ wr.ownsRow w.heap.size 49 3 (.slice po (livH bs (l.take k)).length pc) (livH bs (l.take k)).length (flatH (livH bs (l.take k))) ∧ Below w.heap.size w wr) (fun iv _ _ => l.length - (intOf iv).toNat)
  case atStart => exact ⟨0, _, _, Nat.zero_le _, rfl, rfl, HW1.out.2, HW1.out.1⟩
  case round =>
    obtain ⟨k, po, pc, hk, rfl, rfl, ho, hb⟩ := hrel
    have HR : Hid (wr.ownsRow w.heap.size 49 3 (.slice po (livH bs (l.take k)).length pc) (livH bs (l.take k)).length (flatH (livH bs (l.take k))) ∧ Below w.heap.size w wr) := ⟨ho, hb⟩
    clear ho hb
    by_cases hlt : k < l.length
    · obtain ⟨a, ha⟩ : ∃ a, l[k]? = some a := ⟨l[k], List.getElem?_eq_getElem hlt⟩
      obtain ⟨b, off, rfl, bl, c0, c1, c2⟩ := (HM.out.1.keep HR.out.2).at ha
      obtain ⟨n0, n1⟩ := HM.out.2.2 a (List.mem_of_getElem? ha)
      have HLV : Hid (type_of% (livH_take_succ (bs := bs) ha)) := livH_take_succ (bs := bs) ha
      have HLL : Hid ((livH bs (l.take k)).length ≤ k) := by
        show _ ≤ _
        have h1 := livH_len bs (l.take k)
        rw [List.length_take] at h1
        omega
      obtain ⟨a0, a1, a2⟩ := a
      simp only at c0 c1 c2 n0 n1 HLV
      obtain ⟨m, rfl⟩ : ∃ m : Nat, a0 = (m : Int) := ⟨a0.toNat, by omega⟩
      have hm : m < bs.length := by omega
      have c3 : wr.cell? ⟨ab, m, none⟩ = some (.bool (bs[m]?.getD false)) := alive_at ((HR.out.2.block ab (lt_of_get HM.out.2.1)).trans HM.out.2.1) hm
      have l1 : ab < wr.heap.size := Nat.lt_of_lt_of_le (lt_of_get HM.out.2.1) HR.out.2.size
      have i1 : (k : Int) < (l.length : Int) := by omega
      have i2 : (0 : Int) ≤ (k : Int) := by omega
      rw [Int.toNat_natCast] at HLV
      clear ha
      cases hbm : bs[m]?.getD false with
      | true =>
        rw [hbm] at c3 HLV
        rw [if_pos rfl] at HLV
        have hbd : Below wr.heap.size wr ((wr.alloc (.cells #[.int .i64 (m : Int), .int .u64 a1, .int .i64 a2] 49)).alloc (.cells #[.int .i64 (m : Int), .int .u64 a1, .int .i64 a2] 49)) := ((Below.refl _ wr).alloc (Nat.le_refl _) _).alloc (by simp) _
        have hso := hs_one (wr.alloc (.cells #[.int .i64 (m : Int), .int .u64 a1, .int .i64 a2] 49)) ((m : Int), a1, a2) 49
        rw [show (wr.alloc (.cells #[.int .i64 (m : Int), .int .u64 a1, .int .i64 a2] 49)).heap.size = wr.heap.size + 1 by simp] at hso
        have HAP : Hid (((wr.alloc (.cells #[.int .i64 (m : Int), .int .u64 a1, .int .i64 a2] 49)).alloc (.cells #[.int .i64 (m : Int), .int .u64 a1, .int .i64 a2] 49)).ownsRow w.heap.size 49 3 (.slice po (livH bs (l.take k)).length pc) (livH bs (l.take k)).length (flatH (livH bs (l.take k))) ∧ HasHs ((wr.alloc (.cells #[.int .i64 (m : Int), .int .u64 a1, .int .i64 a2] 49)).alloc (.cells #[.int .i64 (m : Int), .int .u64 a1, .int .i64 a2] 49)) (.slice (some ⟨wr.heap.size + 1, 0, none⟩) 1 1) [((m : Int), a1, a2)] ∧ w.heap.size ≤ ((wr.alloc (.cells #[.int .i64 (m : Int), .int .u64 a1, .int .i64 a2] 49)).alloc (.cells #[.int .i64 (m : Int), .int .u64 a1, .int .i64 a2] 49)).heap.size ∧ Below w.heap.size w ((wr.alloc (.cells #[.int .i64 (m : Int), .int .u64 a1, .int .i64 a2] 49)).alloc (.cells #[.int .i64 (m : Int), .int .u64 a1, .int .i64 a2] 49))) := ⟨rowH_keep HR.out.1 hbd, hso, Nat.le_trans HR.out.2.size hbd.size, HR.out.2.trans (hbd.mono HR.out.2.size)⟩
        clear hbd hso
        generalize livH bs (l.take k) = L at *
        go_wp2_with (at_builtin; refine wpList_append_hs rfl _ _ rfl w.heap.size (.slice po L.length pc) L rfl HAP.out.1 (some ⟨wr.heap.size + 1, 0, none⟩) 1 [((m : Int), a1, a2)] rfl HAP.out.2.1 (fun e => by cases e) (by have := HLL.out; simp only [List.length_cons, List.length_nil]; omega) HAP.out.2.2.1 ?_; intro v3 w3 hown3 hgr3; obtain ⟨qo, qc, hv3⟩ := rowH_slice hown3; subst hv3; have Y3 : Hid (w3.ownsRow w.heap.size 49 3 (.slice qo (L ++ [((m : Int), a1, a2)]).length qc) (L ++ [((m : Int), a1, a2)]).length (flatH (L ++ [((m : Int), a1, a2)])) ∧ Below w.heap.size w w3) := ⟨hown3, belowH_grown HAP.out.2.2.2 HAP.out.1 hgr3 HAP.out.2.2.1⟩; clear hown3 hgr3)
        go_roundw
        case rel => exact ⟨k + 1, qo, qc, by omega, by go_num, by rw [HLV.out, List.length_append]; rfl, by rw [HLV.out]; exact Y3.out.1, Y3.out.2⟩
        case measure => simp [intOf]; omega
      | false =>
        rw [hbm] at c3 HLV
        rw [if_neg (by simp), List.append_nil] at HLV
        have hbd : Below wr.heap.size wr (wr.alloc (.cells #[.int .i64 (m : Int), .int .u64 a1, .int .i64 a2] 49)) := (Below.refl _ wr).alloc (Nat.le_refl _) _
        have HAP : Hid ((wr.alloc (.cells #[.int .i64 (m : Int), .int .u64 a1, .int .i64 a2] 49)).ownsRow w.heap.size 49 3 (.slice po (livH bs (l.take k)).length pc) (livH bs (l.take k)).length (flatH (livH bs (l.take k))) ∧ Below w.heap.size w (wr.alloc (.cells #[.int .i64 (m : Int), .int .u64 a1, .int .i64 a2] 49))) := ⟨rowH_keep HR.out.1 hbd, HR.out.2.trans (hbd.mono HR.out.2.size)⟩
        clear hbd
        go_wp2
        go_roundw
        case rel => exact ⟨k + 1, po, pc, by omega, by go_num, by rw [HLV.out], by rw [HLV.out]; exact HAP.out.1, HAP.out.2⟩
        case measure => simp [intOf]; omega
    · obtain rfl : k = l.length := by omega
      have HT : Hid (l.take l.length = l) := List.take_length
      rw [HT.out] at HR ⊢
      go_wp2
      go_ret
      exact ⟨_, rfl, HR.out⟩
end Go.Proofs.YtbkclhaonbjobaaGreat

namespace Go.Proofs.YtbkclhaonbjobaaGreat
open Go.RowKit Go.Extern Go.Sort

attribute [local go_sem] Oper.semAt_some

theorem rowH_base {w : World} {B B' n : Nat} {v : Value} {xs : List Value} (h : w.ownsRow B' 49 3 v n xs) (hb : B ≤ B') : w.ownsRow B 49 3 v n xs := by
  obtain ⟨h1, h2⟩ := h
  refine ⟨h1, ?_⟩
  rcases h2 with h2 | ⟨g, cap, cur, e, hb', r⟩
  · exact Or.inl h2
  · exact Or.inr ⟨g, cap, cur, e, Nat.le_trans hb hb', r⟩
theorem set_thrice (c : Array Value) (o : Nat) (x y z : Value) : ((c.setIfInBounds (o + 1) x).setIfInBounds o y).setIfInBounds (o + 1) z = (c.setIfInBounds o y).setIfInBounds (o + 1) z := by
  apply Array.ext_getElem?
  intro i
  simp only [Array.getElem?_setIfInBounds, Array.size_setIfInBounds]
  split
  · rfl
  · rename_i h
    split
    · rfl
    · rfl
/-- what lose makes of a row. -/
def loseH (bs : List Bool) (l : List H3) (gn : Nat) : List H3 × Nat := if l.length < 2 * (gn + 1) then (livH bs l, 0) else (l, gn + 1)

set_option maxRecDepth 100000 in
set_option maxHeartbeats 2000000 in
theorem lose_calls (B rb ro ab : Nat) (cur : Array Value) (T TB : TypeId) (v : Value) (gn : Nat) (l : List H3) (bs : List Bool) (w : World) (hrow : w.heap[rb]? = some (.cells cur T (0, 0))) (hv : cur[ro]? = some v) (hgn : cur[ro + 1]? = some (.int .i64 gn)) (ho : w.ownsRow B 49 3 v l.length (flatH l)) (hne : v.ownBlock ≠ some rb) (hB : B ≤ w.heap.size) (hab : w.heap[ab]? = some (.cells (bC bs) TB (0, 0))) (hne2 : ab ≠ rb) (hg : gn + 1 ≤ l.length) (hl : l.length ≤ 262144) (hn : ∀ a ∈ l, 0 ≤ a.1 ∧ a.1 < (bs.length : Int)) :
    Calls Tryz.prog 64 #[.pointer (some ⟨rb, ro, none⟩), .slice (some ⟨ab, 0, none⟩) bs.length bs.length] w fun e w' => e = .returned (.tuple #[]) ∧ ∃ v', w'.ownsRow B 49 3 v' (loseH bs l gn).1.length (flatH (loseH bs l gn).1) ∧ Moved w w' rb ro cur T v v' (loseH bs l gn).2 := by
  have hlt := lt_of_get hrow
  obtain ⟨ao, c, rfl⟩ := rowH_slice ho
  obtain ⟨W1, hW1⟩ : ∃ W1, w.setCell ⟨rb, ro + 1, none⟩ (.int .i64 ((gn : Int) + 1)) = W1 := ⟨_, rfl⟩
  have hr1 : W1.heap[rb]? = some (.cells (cur.setIfInBounds (ro + 1) (.int .i64 ((gn : Int) + 1))) T (0, 0)) := by rw [← hW1]; exact hsc_same _ hrow
  have hsz1 : W1.heap.size = w.heap.size := by rw [← hW1]; simp
  have hot : ∀ j, j ≠ rb → W1.heap[j]? = w.heap[j]? := fun j hj => by rw [← hW1]; exact heap_setCell_other _ _ _ _ hj
  have hw1 : W1.os = w.os ∧ W1.tape = w.tape ∧ W1.output = w.output := by rw [← hW1]; exact ⟨rfl, rfl, rfl⟩
  have hros : ro + 1 < cur.size := (Array.getElem?_eq_some_iff.1 hgn).1
  have hv1 : (cur.setIfInBounds (ro + 1) (.int .i64 ((gn : Int) + 1)))[ro]? = some (.slice ao l.length c) := by rw [Array.getElem?_setIfInBounds, if_neg (by omega)]; exact hv
  have hg1 : (cur.setIfInBounds (ro + 1) (.int .i64 ((gn : Int) + 1)))[ro + 1]? = some (.int .i64 ((gn + 1 : Nat) : Int)) := by rw [Array.getElem?_setIfInBounds, if_pos rfl, if_pos hros]; rfl
  have ho1 : W1.ownsRow B 49 3 (.slice ao l.length c) l.length (flatH l) := by rw [← hW1]; exact own_set ho hne _
  have hab1 : W1.heap[ab]? = some (.cells (bC bs) TB (0, 0)) := (hot ab hne2).trans hab
  have HLI : Hid (type_of% (living_calls rb ro ab _ T TB _ (gn + 1) l bs W1.drew hr1 hv1 hg1 ((hs_of_rowH ho1).keep (Below.refl _ W1).drew) hab1 hg hl hn)) := living_calls rb ro ab _ T TB _ (gn + 1) l bs W1.drew hr1 hv1 hg1 ((hs_of_rowH ho1).keep (Below.refl _ W1).drew) hab1 hg hl hn
  have c0 : w.cell? ⟨rb, ro + 1, none⟩ = some (.int .i64 gn) := by simpa [World.cell?, hrow] using hgn
  have f0 : w.frozen? ⟨rb, ro + 1, none⟩ = false := by simp [World.frozen?, hrow]
  have d0 : W1.cell? ⟨rb, ro, none⟩ = some (.slice ao l.length c) := by simpa [World.cell?, hr1] using hv1
  have d1 : W1.cell? ⟨rb, ro + 1, none⟩ = some (.int .i64 ((gn : Int) + 1)) := by simpa [World.cell?, hr1] using hg1
  have HW : Hid (w.setCell ⟨rb, ro + 1, none⟩ (.int .i64 ((gn : Int) + 1)) = W1) := hW1
  have HB : Hid (∀ j, j ≠ rb → W1.heap[j]? = w.heap[j]?) := hot
  have HN : Hid (type_of% (And.intro hr1 (And.intro hsz1 (And.intro hw1 (And.intro hne (And.intro hB ho1)))))) := ⟨hr1, hsz1, hw1, hne, hB, ho1⟩
  have i0 : IntKind.i64.wrap ((gn : Int) + 1) = (gn : Int) + 1 := by rw [IntKind.wrap_i64] <;> omega
  have i1 : IntKind.i64.wrap (2 * ((gn : Int) + 1)) = 2 * ((gn : Int) + 1) := by rw [IntKind.wrap_i64] <;> omega
  have l0 : rb < W1.heap.size := by omega
  have HV : Hid (cur[ro]? = some (.slice ao l.length c)) := hv
  clear hW1 hr1 hot hw1 hros hv1 hg1 ho1 hab1 hrow hv hgn ho hne hB hab hne2 hn hsz1
  by_cases hbig : l.length < 2 * (gn + 1)
  · have j0 : 2 * ((gn : Int) + 1) > (l.length : Int) := by omega
    have j1 : (l.length : Int) < 2 * ((gn : Int) + 1) := by omega
    have HE : Hid (loseH bs l gn = (livH bs l, 0)) := by show _ = _; simp [loseH, hbig]
    go_enter Tryz.func64, Tryz.ntmps64
    go_wp2_with fail
    rw [HW.out]
    go_region_held3 (fun w' => w'.cell? ⟨rb, ro, none⟩ = some (.slice ao l.length c) ∧ w'.cell? ⟨rb, ro + 1, none⟩ = some (.int .i64 ((gn : Int) + 1))) (go_keep) (first | fail)
    go_wp2_with fail
    refine HLI.out.mono ?_
    rintro e w2 ⟨v', rfl, o2, b2⟩
    obtain ⟨qo, qc, hv3⟩ := rowH_slice o2
    subst hv3
    have hb2 : Below W1.heap.size W1 w2 := (Below.refl _ W1).drew.trans b2
    obtain ⟨n1, n2, ⟨n3, n4, n5⟩, n6, n7, n8⟩ := HN.out
    have hr2 : w2.heap[rb]? = some (.cells (cur.setIfInBounds (ro + 1) (.int .i64 ((gn : Int) + 1))) T (0, 0)) := (hb2.block rb l0).trans n1
    have hne' : (Value.slice qo (livH bs l).length qc).ownBlock ≠ some rb := fun e => by
      have h := (o2.lt rb e).1
      have h' : W1.heap.size ≤ rb := h
      omega
    have HF : Hid (∀ W, W = (w2.setCell ⟨rb, ro, none⟩ (.slice qo (livH bs l).length qc)).setCell ⟨rb, ro + 1, none⟩ (.int .i64 0) → W.ownsRow B 49 3 (.slice qo (livH bs l).length qc) (livH bs l).length (flatH (livH bs l)) ∧ Moved w W rb ro cur T (.slice ao l.length c) (.slice qo (livH bs l).length qc) 0) := fun W hW => by
      subst hW
      refine ⟨own_set (own_set (rowH_base o2 (by show B ≤ W1.heap.size; omega)) hne' _) hne' _, ⟨hb2.os.trans n3, hb2.tape.trans n4, hb2.output.trans n5, by have := hb2.size; simp; omega, fun k hk h1 h2 => ?_, ?_, fun k hk => Or.inr ?_⟩⟩
      · rw [heap_setCell_other _ _ _ _ h1, heap_setCell_other _ _ _ _ h1, hb2.block k (by omega), HB.out k h1]
      · rw [hsc_same _ (hsc_same _ hr2), set_thrice]
        rfl
      · have h := (o2.lt k hk).1
        have h' : W1.heap.size ≤ k := h
        omega
    have e0 : w2.cell? ⟨rb, ro, none⟩ = some (.slice ao l.length c) := (hb2.cell (p := ⟨rb, ro, none⟩) l0).trans d0
    have e1 : w2.cell? ⟨rb, ro + 1, none⟩ = some (.int .i64 ((gn : Int) + 1)) := (hb2.cell (p := ⟨rb, ro + 1, none⟩) l0).trans d1
    have e2 : w2.frozen? ⟨rb, ro, none⟩ = false := by simp [World.frozen?, hr2]
    have e3 : w2.frozen? ⟨rb, ro + 1, none⟩ = false := by simp [World.frozen?, hr2]
    have e4 : rb < w2.heap.size := lt_of_get hr2
    clear n1 n2 n3 n4 n5 n6 n7 n8 hr2 hne' hb2 b2 o2
    go_wp2
    obtain ⟨f1, f2⟩ := HF.out _ rfl
    exact bodyPost_end (v := .tuple #[]) (by simp [results, Tryz.results64]) rfl ⟨rfl, _, by rw [HE.out]; exact f1, by rw [HE.out]; exact f2⟩
  · have j0 : ¬ 2 * ((gn : Int) + 1) > (l.length : Int) := by omega
    have j1 : ¬ (l.length : Int) < 2 * ((gn : Int) + 1) := by omega
    have HE : Hid (loseH bs l gn = (l, gn + 1)) := by show _ = _; simp [loseH, hbig]
    have HF : Hid (∀ W, W = W1.drew → W.ownsRow B 49 3 (.slice ao l.length c) l.length (flatH l) ∧ Moved w W rb ro cur T (.slice ao l.length c) (.slice ao l.length c) (gn + 1)) := fun W hW => by
      subst hW
      obtain ⟨n1, n2, ⟨n3, n4, n5⟩, n6, n7, n8⟩ := HN.out
      refine ⟨n8, ⟨n3, n4, n5, by show w.heap.size ≤ W1.heap.size; omega, fun k hk h1 h2 => HB.out k h1, ?_, fun k hk => Or.inl hk⟩⟩
      rw [set_self (c := cur) HV.out]
      exact n1
    go_enter Tryz.func64, Tryz.ntmps64
    go_wp2_with fail
    rw [HW.out]
    go_region_held3 (fun w' => w'.cell? ⟨rb, ro, none⟩ = some (.slice ao l.length c) ∧ w'.cell? ⟨rb, ro + 1, none⟩ = some (.int .i64 ((gn : Int) + 1))) (go_keep) (first | fail)
    go_wp2
    obtain ⟨f1, f2⟩ := HF.out _ rfl
    exact bodyPost_end (v := .tuple #[]) (by simp [results, Tryz.results64]) rfl ⟨rfl, _, by rw [HE.out]; exact f1, by rw [HE.out]; exact f2⟩
end Go.Proofs.YtbkclhaonbjobaaGreat

namespace Go.Proofs.YtbkclhaonbjobaaGreat
open Go.RowKit Go.Extern Go.Sort

attribute [local go_sem] Oper.semAt_some

/-- a row: its list's value, its halves, how many are gone. -/
abbrev Rw := Value × List H3 × Nat
/-- rows' cells. -/
def rC (n : Nat) (f : Nat → Rw) : Array Value := ((List.range n).flatMap fun u => [(f u).1, .int .i64 ((f u).2.2 : Nat)]).toArray
theorem rC_len (n : Nat) (f : Nat → Rw) : (rC n f).size = n * 2 := by
  unfold rC
  induction n with
  | zero => simp
  | succ n ih => rw [List.range_succ]; simp at ih ⊢; omega
theorem rC_get (n : Nat) (f : Nat → Rw) (j : Nat) : (rC n f)[j]? = if j < n * 2 then some (if j % 2 = 0 then (f (j / 2)).1 else .int .i64 ((f (j / 2)).2.2 : Nat)) else none := by
  induction n with
  | zero => simp [rC]
  | succ n ih =>
    have e : rC (n + 1) f = rC n f ++ #[(f n).1, .int .i64 ((f n).2.2 : Nat)] := by
      unfold rC
      rw [List.range_succ, List.flatMap_append]
      simp
    rw [e, Array.getElem?_append, rC_len]
    split
    · rename_i h
      rw [ih, if_pos h, if_pos (show j < (n + 1) * 2 by omega)]
    · rename_i h
      rcases (show j = n * 2 ∨ j = n * 2 + 1 ∨ (n + 1) * 2 ≤ j by omega) with hj | hj | hj
      · subst hj
        rw [if_pos (by omega)]
        simp [show n * 2 / 2 = n by omega]
      · subst hj
        rw [if_pos (by omega)]
        simp [show (n * 2 + 1) / 2 = n by omega, show (n * 2 + 1) % 2 = 1 by omega]
      · rw [if_neg (by omega), Array.getElem?_eq_none]
        simp
        omega
/-- rows with one of them changed. -/
def updR (f : Nat → Rw) (u : Nat) (r : Rw) : Nat → Rw := fun x => if x = u then r else f x
theorem rC_set (n : Nat) (f : Nat → Rw) (u : Nat) (r : Rw) : ((rC n f).setIfInBounds (u * 2) r.1).setIfInBounds (u * 2 + 1) (.int .i64 (r.2.2 : Nat)) = rC n (updR f u r) := by
  apply Array.ext_getElem?
  intro j
  simp only [Array.getElem?_setIfInBounds, Array.size_setIfInBounds, rC_len, rC_get, updR]
  rcases (show j = u * 2 ∨ j = u * 2 + 1 ∨ (j ≠ u * 2 ∧ j ≠ u * 2 + 1) by omega) with hj | hj | hj
  · subst hj
    rw [if_neg (by omega), if_pos rfl]
    simp [show u * 2 / 2 = u by omega]
  · subst hj
    rw [if_pos rfl]
    simp [show (u * 2 + 1) / 2 = u by omega, show (u * 2 + 1) % 2 = 1 by omega]
  · rw [if_neg (show ¬ u * 2 + 1 = j by omega), if_neg (show ¬ u * 2 = j by omega)]
    simp only [show ¬ j / 2 = u by omega, if_false]
/-- nothing is guarded. -/
def noP : Nat → Option Obj := fun _ => none
/-- an overlay in memory, and blocks that are none of its own. -/
structure OvMem (PX : Nat → Option Obj) (w : World) (B pb ab : Nat) (sb : Bool → Nat) (n : Nat) (bs : List Bool) (R : Bool → Nat → Rw) (nodes arcs : Int) : Prop where
  box : w.heap[pb]? = some (.cells #[.slice (some ⟨ab, 0, none⟩) n n, .slice (some ⟨sb false, 0, none⟩) n n, .slice (some ⟨sb true, 0, none⟩) n n, .int .i64 nodes, .int .i64 arcs] 82 (0, 0))
  al : w.heap[ab]? = some (.cells (bC bs) 4 (0, 0))
  row : ∀ s, w.heap[sb s]? = some (.cells (rC n (R s)) 86 (0, 0))
  bl : bs.length = n
  big : n ≤ 65536
  own : ∀ s u, u < n → w.ownsRow B 49 3 (R s u).1 (R s u).2.1.length (flatH (R s u).2.1)
  low : B ≤ pb ∧ B ≤ ab ∧ ∀ s, B ≤ sb s
  two : sb false ≠ sb true
  prot : ∀ X o, PX X = some o → w.heap[X]? = some o ∧ X ≠ pb ∧ X ≠ ab ∧ (∀ s, X ≠ sb s) ∧ ∀ s u, u < n → (R s u).1.ownBlock ≠ some X
  apart : ∀ s u k, u < n → (R s u).1.ownBlock = some k → ∀ s' u', u' < n → (s', u') ≠ (s, u) → (R s' u').1.ownBlock ≠ some k
section
variable {w w' : World} {PX : Nat → Option Obj} {B pb ab n : Nat} {sb : Bool → Nat} {bs : List Bool} {R : Bool → Nat → Rw} {nodes arcs : Int}
theorem OvMem.keep (h : OvMem PX w B pb ab sb n bs R nodes arcs) (hb : Below w.heap.size w w') : OvMem PX w' B pb ab sb n bs R nodes arcs :=
  ⟨(hb.block _ (lt_of_get h.box)).trans h.box, (hb.block _ (lt_of_get h.al)).trans h.al, fun s => (hb.block _ (lt_of_get (h.row s))).trans (h.row s), h.bl, h.big, fun s u hu => rowH_keep (h.own s u hu) hb, h.low, h.two, fun X o hX => ⟨(hb.block _ (lt_of_get (h.prot X o hX).1)).trans (h.prot X o hX).1, (h.prot X o hX).2⟩, h.apart⟩
theorem OvMem.cells (h : OvMem PX w B pb ab sb n bs R nodes arcs) : w.cell? ⟨pb, 0, none⟩ = some (.slice (some ⟨ab, 0, none⟩) n n) ∧ w.cell? ⟨pb, 1, none⟩ = some (.slice (some ⟨sb false, 0, none⟩) n n) ∧ w.cell? ⟨pb, 2, none⟩ = some (.slice (some ⟨sb true, 0, none⟩) n n) ∧ w.cell? ⟨pb, 3, none⟩ = some (.int .i64 nodes) ∧ w.cell? ⟨pb, 4, none⟩ = some (.int .i64 arcs) ∧ pb < w.heap.size := by
  refine ⟨?_, ?_, ?_, ?_, ?_, lt_of_get h.box⟩ <;> simp [World.cell?, h.box]
theorem OvMem.flag (h : OvMem PX w B pb ab sb n bs R nodes arcs) {m : Nat} (hm : m < n) : w.cell? ⟨ab, m, none⟩ = some (.bool (bs[m]?.getD false)) := alive_at h.al (by rw [h.bl]; exact hm)

/-- is it a node? -/
def isN (n : Nat) (x : Int) : Bool := decide (0 ≤ x) && decide (x < (n : Int))
/-- is it alive? -/
def aliveB (n : Nat) (bs : List Bool) (x : Int) : Bool := isN n x && bs[x.toNat]?.getD false

set_option maxHeartbeats 1000000 in
theorem isNode_calls (h : OvMem PX w B pb ab sb n bs R nodes arcs) (x : Int) : Calls Tryz.prog 28 #[.pointer (some ⟨pb, 0, none⟩), .int .i64 x] w fun e w' => e = .returned (.bool (isN n x)) ∧ w' = w := by
  obtain ⟨c0, c1, c2, c3, c4, cs⟩ := h.cells
  clear h
  unfold isN
  by_cases h0 : 0 ≤ x
  · have h0' : ¬ x < 0 := by omega
    go_enter Tryz.func28, Tryz.ntmps28
    go_wp2
    go_ret
    exact ⟨rfl, rfl⟩
  · have h0' : x < 0 := by omega
    go_enter Tryz.func28, Tryz.ntmps28
    go_wp2
    go_ret
    exact ⟨by rw [decide_eq_false (show ¬ 0 ≤ x by omega)]; rfl, rfl⟩
set_option maxHeartbeats 1000000 in
theorem alive_calls (h : OvMem PX w B pb ab sb n bs R nodes arcs) (x : Int) : Calls Tryz.prog 9 #[.pointer (some ⟨pb, 0, none⟩), .int .i64 x] w fun e w' => e = .returned (.bool (aliveB n bs x)) ∧ w' = w := by
  obtain ⟨c0, c1, c2, c3, c4, cs⟩ := h.cells
  have HN : Hid (type_of% (isNode_calls h x)) := isNode_calls h x
  unfold aliveB
  cases hx : isN n x with
  | true =>
    rw [hx] at HN
    obtain ⟨m, rfl⟩ : ∃ m : Nat, x = (m : Int) := ⟨x.toNat, by simp [isN] at hx; omega⟩
    have hm : m < n := by simp [isN] at hx; omega
    have c5 := h.flag hm
    have l1 : ab < w.heap.size := lt_of_get h.al
    rw [Int.toNat_natCast]
    clear h hx
    go_enter Tryz.func9, Tryz.ntmps9
    go_wp2_with fail
    refine HN.out.mono ?_
    rintro e w1 ⟨rfl, hw1⟩
    subst hw1
    go_wp2
    go_ret
    exact ⟨by simp, rfl⟩
  | false =>
    rw [hx] at HN
    clear h hx
    go_enter Tryz.func9, Tryz.ntmps9
    go_wp2_with fail
    refine HN.out.mono ?_
    rintro e w1 ⟨rfl, hw1⟩
    subst hw1
    go_wp2
    go_ret
    exact ⟨by simp, rfl⟩
/-- has it gone? -/
def goneB (n : Nat) (bs : List Bool) (x : Int) : Bool := isN n x && !(bs[x.toNat]?.getD false)
set_option maxHeartbeats 1000000 in
theorem gone_calls (h : OvMem PX w B pb ab sb n bs R nodes arcs) (x : Int) : Calls Tryz.prog 65 #[.pointer (some ⟨pb, 0, none⟩), .int .i64 x] w fun e w' => e = .returned (.bool (goneB n bs x)) ∧ w' = w := by
  obtain ⟨c0, c1, c2, c3, c4, cs⟩ := h.cells
  have HN : Hid (type_of% (isNode_calls h x)) := isNode_calls h x
  unfold goneB
  cases hx : isN n x with
  | true =>
    rw [hx] at HN
    obtain ⟨m, rfl⟩ : ∃ m : Nat, x = (m : Int) := ⟨x.toNat, by simp [isN] at hx; omega⟩
    have hm : m < n := by simp [isN] at hx; omega
    have c5 := h.flag hm
    have l1 : ab < w.heap.size := lt_of_get h.al
    rw [Int.toNat_natCast]
    clear h hx
    go_enter Tryz.func65, Tryz.ntmps65
    go_wp2_with fail
    refine HN.out.mono ?_
    rintro e w1 ⟨rfl, hw1⟩
    subst hw1
    go_wp2
    go_ret
    exact ⟨by simp, rfl⟩
  | false =>
    rw [hx] at HN
    clear h hx
    go_enter Tryz.func65, Tryz.ntmps65
    go_wp2_with fail
    refine HN.out.mono ?_
    rintro e w1 ⟨rfl, hw1⟩
    subst hw1
    go_wp2
    go_ret
    exact ⟨by simp, rfl⟩
end
end Go.Proofs.YtbkclhaonbjobaaGreat

namespace Go.Proofs.YtbkclhaonbjobaaGreat
open Go.RowKit Go.Extern Go.Sort

attribute [local go_sem] Oper.semAt_some

/-- rows are in order. -/
structure RowsOk (n : Nat) (R : Bool → Nat → Rw) : Prop where
  rise : ∀ s u, u < n → RiseH (R s u).2.1
  node : ∀ s u, u < n → ∀ a ∈ (R s u).2.1, 0 ≤ a.1 ∧ a.1 < (n : Int)
  gone : ∀ s u, u < n → (R s u).2.2 ≤ (R s u).2.1.length
theorem rise_ge {l : List H3} (hr : RiseH l) (h0 : ∀ a ∈ l, 0 ≤ a.1) : ∀ (i : Nat) (a : H3), l[i]? = some a → (i : Int) ≤ a.1
  | 0, a, h => by simpa using h0 a (List.mem_of_getElem? h)
  | i + 1, a, h => by
    have hl := (List.getElem?_eq_some_iff.1 h).1
    have hb : l[i]? = some l[i] := List.getElem?_eq_getElem (by omega)
    have h1 := rise_ge hr h0 i _ hb
    have h2 := hr.lt hb h (by omega)
    omega
theorem rise_len {l : List H3} {n : Nat} (hr : RiseH l) (h0 : ∀ a ∈ l, 0 ≤ a.1 ∧ a.1 < (n : Int)) : l.length ≤ n := by
  rcases Nat.eq_zero_or_pos l.length with h | h
  · omega
  · have hb : l[l.length - 1]? = some l[l.length - 1] := List.getElem?_eq_getElem (by omega)
    have h1 := rise_ge hr (fun a ha => (h0 a ha).1) _ _ hb
    have h2 := (h0 _ (List.mem_of_getElem? hb)).2
    omega
section
variable {w w' : World} {PX : Nat → Option Obj} {B pb ab n : Nat} {sb : Bool → Nat} {bs : List Bool} {R : Bool → Nat → Rw} {nodes arcs : Int}
theorem OvMem.rc (_h : OvMem PX w B pb ab sb n bs R nodes arcs) (s : Bool) {u : Nat} (hu : u < n) : (rC n (R s))[u * 2]? = some (R s u).1 ∧ (rC n (R s))[u * 2 + 1]? = some (.int .i64 ((R s u).2.2 : Nat)) := by
  refine ⟨?_, ?_⟩
  · rw [rC_get, if_pos (show u * 2 < n * 2 by omega)]
    simp [show u * 2 / 2 = u by omega]
  · rw [rC_get, if_pos (show u * 2 + 1 < n * 2 by omega)]
    simp [show (u * 2 + 1) / 2 = u by omega, show (u * 2 + 1) % 2 = 1 by omega]
theorem OvMem.len (h : OvMem PX w B pb ab sb n bs R nodes arcs) (hk : RowsOk n R) (s : Bool) {u : Nat} (hu : u < n) : (R s u).2.1.length ≤ 65536 := Nat.le_trans (rise_len (hk.rise s u hu) (hk.node s u hu)) h.big
theorem OvMem.ne (h : OvMem PX w B pb ab sb n bs R nodes arcs) (s : Bool) : ab ≠ sb s ∧ pb ≠ sb s ∧ pb ≠ ab := by
  refine ⟨fun e => ?_, fun e => ?_, fun e => ?_⟩
  · have h1 := h.al; rw [e, h.row s] at h1; simp at h1
  · have h1 := h.box; rw [e, h.row s] at h1; simp at h1
  · have h1 := h.box; rw [e, h.al] at h1; simp at h1
theorem OvMem.living (h : OvMem PX w B pb ab sb n bs R nodes arcs) (hk : RowsOk n R) (s : Bool) {u : Nat} (hu : u < n) :
    Calls Tryz.prog 31 #[.pointer (some ⟨sb s, u * 2, none⟩), .slice (some ⟨ab, 0, none⟩) n n] w fun e w' => ∃ v', e = .returned v' ∧ w'.ownsRow w.heap.size 49 3 v' (livH bs (R s u).2.1).length (flatH (livH bs (R s u).2.1)) ∧ Below w.heap.size w w' := by
  have hb := h.bl
  subst hb
  exact living_calls (sb s) (u * 2) ab _ _ _ (R s u).1 (R s u).2.2 (R s u).2.1 bs w (h.row s) (h.rc s hu).1 (h.rc s hu).2 (hs_of_rowH (h.own s u hu)) h.al (hk.gone s u hu) (by have := h.len hk s hu; omega) (hk.node s u hu)

set_option maxRecDepth 100000 in
set_option maxHeartbeats 2000000 in
theorem out_calls (h : OvMem PX w B pb ab sb n bs R nodes arcs) (hk : RowsOk n R) (x : Int) : Calls Tryz.prog 11 #[.pointer (some ⟨pb, 0, none⟩), .int .i64 x] w fun e w' => ∃ v' : Value, e = .returned v' ∧ (aliveB n bs x = false → v' = .slice none 0 0) ∧ (aliveB n bs x = true → w'.ownsRow w.heap.size 49 3 v' (livH bs (R false x.toNat).2.1).length (flatH (livH bs (R false x.toNat).2.1))) ∧ Below w.heap.size w w' := by
  obtain ⟨c0, c1, c2, c3, c4, cs⟩ := h.cells
  have HA : Hid (type_of% (alive_calls h x)) := alive_calls h x
  cases hx : aliveB n bs x with
  | true =>
    rw [hx] at HA
    obtain ⟨m, rfl⟩ : ∃ m : Nat, x = (m : Int) := ⟨x.toNat, by simp [aliveB, isN] at hx; omega⟩
    have hm : m < n := by simp [aliveB, isN] at hx; omega
    have HL : Hid (type_of% ((h.keep (Below.refl _ w).drew).living hk false hm)) := (h.keep (Below.refl _ w).drew).living hk false hm
    have i1 : (m : Int) < (n : Int) := by omega
    have i2 : (0 : Int) ≤ (m : Int) := by omega
    rw [Int.toNat_natCast]
    clear h hx
    go_enter Tryz.func11, Tryz.ntmps11
    go_wp2_with fail
    refine HA.out.mono ?_
    rintro e w1 ⟨rfl, hw1⟩
    subst hw1
    go_wp2_with fail
    go_region_held3 (fun w' => w'.cell? ⟨pb, 0, none⟩ = some (.slice (some ⟨ab, 0, none⟩) n n) ∧ w'.cell? ⟨pb, 1, none⟩ = some (.slice (some ⟨sb false, 0, none⟩) n n)) (go_keep) (first
      | (go_at_call 31; refine HL.out.mono ?_; rintro e y1 ⟨v', rfl, y2, y3⟩; obtain ⟨qo, qc, hv3⟩ := rowH_slice y2; subst hv3; have Y1 : Hid (type_of% (And.intro y2 y3)) := ⟨y2, y3⟩; have z0 := (y3.cell (p := ⟨pb, 0, none⟩) cs).trans c0; have z1 := (y3.cell (p := ⟨pb, 1, none⟩) cs).trans c1; clear y2 y3))
    go_wp2
    go_ret
    exact ⟨_, rfl, fun e => (by cases e), fun _ => Y1.out.1, (Below.refl _ _).drew.trans Y1.out.2⟩
  | false =>
    rw [hx] at HA
    clear h hx
    go_enter Tryz.func11, Tryz.ntmps11
    go_wp2_with fail
    refine HA.out.mono ?_
    rintro e w1 ⟨rfl, hw1⟩
    subst hw1
    go_wp2
    go_ret
    exact ⟨_, rfl, fun _ => rfl, fun e => (by cases e), Below.refl _ _⟩

set_option maxRecDepth 100000 in
set_option maxHeartbeats 2000000 in
theorem in_calls (h : OvMem PX w B pb ab sb n bs R nodes arcs) (hk : RowsOk n R) (x : Int) : Calls Tryz.prog 39 #[.pointer (some ⟨pb, 0, none⟩), .int .i64 x] w fun e w' => ∃ v' : Value, e = .returned v' ∧ (aliveB n bs x = false → v' = .slice none 0 0) ∧ (aliveB n bs x = true → w'.ownsRow w.heap.size 49 3 v' (livH bs (R true x.toNat).2.1).length (flatH (livH bs (R true x.toNat).2.1))) ∧ Below w.heap.size w w' := by
  obtain ⟨c0, c1, c2, c3, c4, cs⟩ := h.cells
  have HA : Hid (type_of% (alive_calls h x)) := alive_calls h x
  cases hx : aliveB n bs x with
  | true =>
    rw [hx] at HA
    obtain ⟨m, rfl⟩ : ∃ m : Nat, x = (m : Int) := ⟨x.toNat, by simp [aliveB, isN] at hx; omega⟩
    have hm : m < n := by simp [aliveB, isN] at hx; omega
    have HL : Hid (type_of% ((h.keep (Below.refl _ w).drew).living hk true hm)) := (h.keep (Below.refl _ w).drew).living hk true hm
    have i1 : (m : Int) < (n : Int) := by omega
    have i2 : (0 : Int) ≤ (m : Int) := by omega
    rw [Int.toNat_natCast]
    clear h hx
    go_enter Tryz.func39, Tryz.ntmps39
    go_wp2_with fail
    refine HA.out.mono ?_
    rintro e w1 ⟨rfl, hw1⟩
    subst hw1
    go_wp2_with fail
    go_region_held3 (fun w' => w'.cell? ⟨pb, 0, none⟩ = some (.slice (some ⟨ab, 0, none⟩) n n) ∧ w'.cell? ⟨pb, 2, none⟩ = some (.slice (some ⟨sb true, 0, none⟩) n n)) (go_keep) (first
      | (go_at_call 31; refine HL.out.mono ?_; rintro e y1 ⟨v', rfl, y2, y3⟩; obtain ⟨qo, qc, hv3⟩ := rowH_slice y2; subst hv3; have Y1 : Hid (type_of% (And.intro y2 y3)) := ⟨y2, y3⟩; have z0 := (y3.cell (p := ⟨pb, 0, none⟩) cs).trans c0; have z1 := (y3.cell (p := ⟨pb, 2, none⟩) cs).trans c2; clear y2 y3))
    go_wp2
    go_ret
    exact ⟨_, rfl, fun e => (by cases e), fun _ => Y1.out.1, (Below.refl _ _).drew.trans Y1.out.2⟩
  | false =>
    rw [hx] at HA
    clear h hx
    go_enter Tryz.func39, Tryz.ntmps39
    go_wp2_with fail
    refine HA.out.mono ?_
    rintro e w1 ⟨rfl, hw1⟩
    subst hw1
    go_wp2
    go_ret
    exact ⟨_, rfl, fun _ => rfl, fun e => (by cases e), Below.refl _ _⟩

/-- the weight of an arc, if there is one. -/
def weightM (n : Nat) (bs : List Bool) (R : Bool → Nat → Rw) (x y : Int) : Option Int :=
  if aliveB n bs x && aliveB n bs y then (if hasH (R false x.toNat).2.1 y then some ((R false x.toNat).2.1[lowH (R false x.toNat).2.1 y]?.getD (0, 0, 0)).2.1 else none) else none

set_option maxRecDepth 100000 in
set_option maxHeartbeats 2000000 in
theorem weight_calls (h : OvMem PX w B pb ab sb n bs R nodes arcs) (hk : RowsOk n R) (x y : Int) : Calls Tryz.prog 53 #[.pointer (some ⟨pb, 0, none⟩), .int .i64 x, .int .i64 y] w fun e w' => e = .returned (.tuple #[.int .u64 ((weightM n bs R x y).getD 0), .bool (weightM n bs R x y).isSome]) ∧ Below w.heap.size w w' := by
  obtain ⟨c0, c1, c2, c3, c4, cs⟩ := h.cells
  have HX : Hid (type_of% (alive_calls h x)) := alive_calls h x
  have HY : Hid (type_of% (alive_calls h y)) := alive_calls h y
  cases hx : aliveB n bs x with
  | false =>
    have HE : Hid (weightM n bs R x y = none) := by show _ = _; simp [weightM, hx]
    rw [hx] at HX
    rw [HE.out]
    clear h hx
    go_enter Tryz.func53, Tryz.ntmps53
    go_wp2_with fail
    refine HX.out.mono ?_
    rintro e w1 ⟨rfl, hw1⟩
    subst hw1
    go_wp2
    go_ret2
    exact ⟨rfl, Below.refl _ _⟩
  | true =>
    cases hy : aliveB n bs y with
    | false =>
      have HE : Hid (weightM n bs R x y = none) := by show _ = _; simp [weightM, hy]
      rw [hx] at HX
      rw [hy] at HY
      rw [HE.out]
      clear h hx hy
      go_enter Tryz.func53, Tryz.ntmps53
      go_wp2_with fail
      refine HX.out.mono ?_
      rintro e w1 ⟨rfl, hw1⟩
      subst hw1
      go_wp2_with fail
      refine HY.out.mono ?_
      rintro e w2 ⟨rfl, hw2⟩
      subst hw2
      go_wp2
      go_ret2
      exact ⟨rfl, Below.refl _ _⟩
    | true =>
      rw [hx] at HX
      rw [hy] at HY
      obtain ⟨m, rfl⟩ : ∃ m : Nat, x = (m : Int) := ⟨x.toNat, by simp [aliveB, isN] at hx; omega⟩
      have hm : m < n := by simp [aliveB, isN] at hx; omega
      have HE : Hid (weightM n bs R (m : Int) y = if hasH (R false m).2.1 y then some ((R false m).2.1[lowH (R false m).2.1 y]?.getD (0, 0, 0)).2.1 else none) := by show _ = _; simp [weightM, hx, hy]
      have hc : w.cell? ⟨sb false, m * 2, none⟩ = some (R false m).1 := by simp [World.cell?, h.row false, (h.rc false hm).1]
      have hl := h.len hk false hm
      have ho := h.own false m hm
      have hf := find_calls (sb false) (m * 2) _ _ y w hc (hs_of_rowH ho) (hk.rise false m hm) (by omega)
      have lr : sb false < w.heap.size := lt_of_get (h.row false)
      have HLO := hasH_low (x := y) (hk.rise false m hm)
      have i1 : (m : Int) < (n : Int) := by omega
      have i2 : (0 : Int) ≤ (m : Int) := by omega
      rw [HE.out]
      generalize (R false m).2.1 = l at *
      generalize (R false m).1 = v at *
      cases hh : hasH l y with
      | false =>
        rw [hh] at hf
        have HF : Hid (type_of% hf) := hf
        clear h hx hy hf hk ho HLO hc hl HE
        go_enter Tryz.func53, Tryz.ntmps53
        go_wp2_with fail
        refine HX.out.mono ?_
        rintro e w1 ⟨rfl, hw1⟩
        subst hw1
        go_wp2_with fail
        refine HY.out.mono ?_
        rintro e w2 ⟨rfl, hw2⟩
        subst hw2
        go_wp2_with fail
        refine HF.out.mono ?_
        rintro e w3 ⟨rfl, hb⟩
        have HB : Hid (type_of% hb) := hb
        clear hb
        go_wp2
        go_ret2
        exact ⟨rfl, HB.out⟩
      | true =>
        obtain ⟨k1, _⟩ := HLO hh
        rw [hh] at hf
        have HF : Hid (type_of% hf) := hf
        obtain ⟨a, ha⟩ : ∃ a, l[lowH l y]? = some a := ⟨l[lowH l y], List.getElem?_eq_getElem k1⟩
        rw [ha]
        obtain ⟨k, hk'⟩ : ∃ k, lowH l y = k := ⟨_, rfl⟩
        rw [hk'] at ha HF k1
        have HH : Hid (∀ w', Below w.heap.size w w' → HasHs w' v l ∧ w'.cell? ⟨sb false, m * 2, none⟩ = some v ∧ w'.cell? ⟨pb, 1, none⟩ = some (.slice (some ⟨sb false, 0, none⟩) n n)) := fun w' hb => ⟨(hs_of_rowH ho).keep hb, (hb.cell (p := ⟨sb false, m * 2, none⟩) lr).trans hc, (hb.cell (p := ⟨pb, 1, none⟩) cs).trans c1⟩
        obtain ⟨ao, c, hv⟩ := rowH_slice ho
        subst hv
        have j1 : (k : Int) < (l.length : Int) := by omega
        have j2 : (0 : Int) ≤ (k : Int) := by omega
        have HA : Hid (l[k]? = some a) := ha
        clear h hx hy hf hk ho HLO hc hl HE ha hk' k1
        go_enter Tryz.func53, Tryz.ntmps53
        go_wp2_with fail
        refine HX.out.mono ?_
        rintro e w1 ⟨rfl, hw1⟩
        subst hw1
        go_wp2_with fail
        refine HY.out.mono ?_
        rintro e w2 ⟨rfl, hw2⟩
        subst hw2
        go_wp2_with fail
        refine HF.out.mono ?_
        rintro e w3 ⟨rfl, hb⟩
        have HB : Hid (type_of% hb) := hb
        obtain ⟨h1, d1, d2⟩ := HH.out w3 hb
        obtain ⟨b, off, rfl, bl, e0, e1, e2⟩ := h1.at HA.out
        clear hb h1
        go_wp2
        go_ret2
        exact ⟨rfl, HB.out⟩
end
end Go.Proofs.YtbkclhaonbjobaaGreat
