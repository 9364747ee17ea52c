/- a row's add and living. -/
import Derived.Test.YtcfpkbmeblfhoaaOvM
namespace Go.Proofs.Ytcfpkbmeblfhoaa
open Go.RowKit Go.Extern Go.Sort

attribute [local go_sem] Oper.semAt_some

/-- append of halves onto a row of one's own, as one step of a region that draws: where it stands then. -/
theorem step_append_hsa {w : World} {ops : Array Oper} {o : Oper} {a : Act} {K : Act → World → Prop} {Q : Exit → Act → World → Prop} {E : Prop} (hg : o.guard = none) (s x : Operand)
    (ho : o.op = .call { callee := .builtin .append, args := #[s, x], argTypes := #[52, 52] }) (base : Nat) (v : Value) (L : List (Int × Int × Int)) (hs : a.eval s = v) (hown : w.ownsRow base 57 3 v L.length (flatH L))
    (ad : Addr) (ac : Nat) (xs : List (Int × Int × Int)) (hx : a.eval x = .slice (some ad) xs.length ac) (hl : HasHs w (.slice (some ad) xs.length ac) xs) (hlen : L.length + xs.length ≤ 1048576) (hbase : base ≤ w.heap.size)
    (h : ∀ v' w', w'.ownsRow base 57 3 v' (L ++ xs).length (flatH (L ++ xs)) → w.grownBy w' v.ownBlock → (∀ k, v'.ownBlock = some k → v.ownBlock = some k ∨ w.heap.size ≤ k) → K (a.put o.dst v') w') :
    if Region.wanted o (yielded ops a.tmps) = true then Oper.wp Try.prog o a w K Q else E := by
  have hw : Region.wanted o (yielded ops a.tmps) = true := by simp [Region.wanted, hg]
  rw [if_pos hw]
  obtain ⟨i0, hi, hz0, hz1, hz2⟩ : ∃ i, Try.prog.info? 57 = some i ∧ i.zero = some (.agg #[.int .i64 0, .int .u64 0, .int .i64 0]) ∧ i.size = 3 ∧ i.bytes = 24 := by
    have h := Try.infoH
    cases hi : Try.prog.info? 57 with
    | none => rw [hi] at h; cases h
    | some i => rw [hi] at h; simp at h; exact ⟨i, rfl, h.1, h.2.1, h.2.2⟩
  obtain ⟨v', w', hr, h2, h3, _, h5⟩ := run_append_own_at (P := Try.prog) w base 52 o.type 57 i0 _ 3 24 Try.underlying52 hi hz0 hz1 hz2 rfl (by decide) v L.length (flatH L) hown ad xs.length ac (flatH xs) (flatH_len xs) (flatH_at hl) (flatH_one xs) (by unfold maxLen; omega) (by omega) hbase
  unfold Oper.wp execOp
  simp only [ho, resolve, invoke, builtin, Sem.run_bind, Sem.run_pure, Result.andThen_ok, List.map_toArray, List.map_cons, List.map_nil, hs, hx, hr]
  exact h v' w' (by rw [List.length_append, flatH_append]; exact h2) h3 (fun k hk => by
    rcases h5 with h5 | h5
    · exact Or.inl (h5 ▸ hk)
    · rw [h5] at hk
      cases hk
      exact Or.inr (Nat.le_refl _))

set_option maxHeartbeats 1000000 in
theorem add_calls (B rb ro : Nat) (cur : Array Value) (T : TypeId) (v : Value) (gn : Nat) (l : List H3) (h : H3) (w : World) (hrow : w.heap[rb]? = some (.cells cur T (0, 0))) (hv : cur[ro]? = some v) (hgn : cur[ro + 1]? = some (.int .i64 gn)) (ho : w.ownsRow B 57 3 v l.length (flatH l)) (hne : v.ownBlock ≠ some rb) (hB : B ≤ w.heap.size) (hl : l.length ≤ 262144) :
    Calls Try.prog 14 #[.pointer (some ⟨rb, ro, none⟩), hV h] w fun e w' => e = .returned (.tuple #[]) ∧ ∃ v', w'.ownsRow B 57 3 v' (l ++ [h]).length (flatH (l ++ [h])) ∧ Moved w w' rb ro cur T v v' gn := by
  have hlt := lt_of_get hrow
  obtain ⟨ao, c, rfl⟩ := rowH_slice ho
  obtain ⟨W0, hW0⟩ : ∃ W0, w.alloc (.cells #[.int .i64 h.1, .int .u64 h.2.1, .int .i64 h.2.2] 57) = W0 := ⟨_, rfl⟩
  have hb0 : Below w.heap.size w W0 := by rw [← hW0]; exact (Below.refl _ w).alloc (Nat.le_refl _) _
  have hz0 : W0.heap.size = w.heap.size + 1 := by rw [← hW0]; show (w.heap.push _).size = _; simp
  have hq0 : W0.heap[w.heap.size]? = some (.cells (hC h).toArray 57 (0, 0)) := by rw [← hW0]; exact heap_new w _
  have hr0 : W0.heap[rb]? = some (.cells cur T (0, 0)) := (hb0.block rb hlt).trans hrow
  have hbW : Below w.heap.size w (W0.drew.alloc (.cells #[.int .i64 h.1, .int .u64 h.2.1, .int .i64 h.2.2] 57)) := hb0.drew.alloc (by show w.heap.size ≤ W0.heap.size; omega) _
  have hsz : (W0.drew.alloc (.cells #[.int .i64 h.1, .int .u64 h.2.1, .int .i64 h.2.2] 57)).heap.size = w.heap.size + 2 := by show (W0.heap.push _).size = _; simp [hz0]
  have hso := hs_one W0.drew h 57
  have HX : Hid ((W0.drew.alloc (.cells #[.int .i64 h.1, .int .u64 h.2.1, .int .i64 h.2.2] 57)).ownsRow B 57 3 (.slice ao l.length c) l.length (flatH l) ∧ HasHs (W0.drew.alloc (.cells #[.int .i64 h.1, .int .u64 h.2.1, .int .i64 h.2.2] 57)) (.slice (some ⟨W0.heap.size, 0, none⟩) 1 1) [h] ∧ B ≤ (W0.drew.alloc (.cells #[.int .i64 h.1, .int .u64 h.2.1, .int .i64 h.2.2] 57)).heap.size) := ⟨rowH_keep ho hbW, hso, by omega⟩
  have HFI : Hid (∀ v' w', w'.ownsRow B 57 3 v' (l ++ [h]).length (flatH (l ++ [h])) → (W0.drew.alloc (.cells #[.int .i64 h.1, .int .u64 h.2.1, .int .i64 h.2.2] 57)).grownBy w' (Value.slice ao l.length c).ownBlock → (∀ k, v'.ownBlock = some k → (Value.slice ao l.length c).ownBlock = some k ∨ (W0.drew.alloc (.cells #[.int .i64 h.1, .int .u64 h.2.1, .int .i64 h.2.2] 57)).heap.size ≤ k) →
      (w'.setCell ⟨rb, ro, none⟩ v').ownsRow B 57 3 v' (l ++ [h]).length (flatH (l ++ [h])) ∧ Moved w (w'.setCell ⟨rb, ro, none⟩ v') rb ro cur T (Value.slice ao l.length c) v' gn ∧ w'.cell? ⟨rb, ro, none⟩ = some (.slice ao l.length c) ∧ w'.frozen? ⟨rb, ro, none⟩ = false ∧ rb < w'.heap.size) := fun v' w2 o1 gr fr => by
    have hne' : v'.ownBlock ≠ some rb := fun e => by
      rcases fr rb e with h | h
      · exact hne h
      · omega
    have hr2 : w2.heap[rb]? = some (.cells cur T (0, 0)) := by rw [gr.block rb (by omega) (fun e => hne e.symm), hbW.block rb hlt]; exact hrow
    exact ⟨own_set o1 hne' _, moved_of hbW gr hrow hgn hne fr, by simpa [World.cell?, hr2] using hv, by simp [World.frozen?, hr2], lt_of_get hr2⟩
  have d0 : W0.cell? ⟨rb, ro, none⟩ = some (.slice ao l.length c) := by simpa [World.cell?, hr0] using hv
  have g0 : W0.cell? ⟨w.heap.size, 0, none⟩ = some (.int .i64 h.1) := by simp [World.cell?, hq0, hC]
  have g1 : W0.cell? ⟨w.heap.size, 1, none⟩ = some (.int .u64 h.2.1) := by simp [World.cell?, hq0, hC]
  have g2 : W0.cell? ⟨w.heap.size, 2, none⟩ = some (.int .i64 h.2.2) := by simp [World.cell?, hq0, hC]
  have l0 : rb < W0.heap.size := lt_of_get hr0
  have l1 : w.heap.size < W0.heap.size := lt_of_get hq0
  have HW : Hid (w.alloc (.cells #[.int .i64 h.1, .int .u64 h.2.1, .int .i64 h.2.2] 57) = W0) := hW0
  unfold hV
  clear hW0 hb0 hz0 hq0 hr0 hbW hsz hso ho hne hv hgn hrow hlt
  go_enter Try.func14, Try.ntmps14
  go_wp2_with fail
  rw [HW.out]
  go_region_law (first | (refine step_append_hsa rfl _ _ rfl B (.slice ao l.length c) l rfl HX.out.1 ⟨W0.heap.size, 0, none⟩ 1 [h] rfl HX.out.2.1 (by simp only [List.length_cons, List.length_nil]; omega) HX.out.2.2 ?_; intro v3 w3 hown3 hgr3 hfr3; obtain ⟨x1, x2, x3, x4, x5⟩ := HFI.out v3 w3 hown3 hgr3 hfr3; obtain ⟨po, pc, hv3⟩ := rowH_slice hown3; subst hv3; have Y3 : Hid (type_of% (And.intro x1 x2)) := ⟨x1, x2⟩; clear hown3 hgr3 hfr3 x1 x2))
  all_goals
    go_wp2
    exact bodyPost_end (v := .tuple #[]) (by simp [results, Try.results14]) rfl ⟨rfl, .slice po (l.length + 1) pc, by have h3 := Y3.out.1; simp only [List.length_append, List.length_cons, List.length_nil, Nat.zero_add] at h3 ⊢; exact h3, by have h3 := Y3.out.2; simp only [List.length_append, List.length_cons, List.length_nil, Nat.zero_add] at h3; exact h3⟩
/-- flags in memory, a block of its own. -/
def bC (bs : List Bool) : Array Value := (bs.map Value.bool).toArray
/-- the halves whose ends are alive. -/
def livH (bs : List Bool) (l : List H3) : List H3 := l.filter fun a => bs[a.1.toNat]?.getD false
theorem livH_take_succ {bs : List Bool} {l : List H3} {k : Nat} {a : H3} (h : l[k]? = some a) : livH bs (l.take (k + 1)) = livH bs (l.take k) ++ (if bs[a.1.toNat]?.getD false then [a] else []) := by
  rw [List.take_add_one, h]
  unfold livH
  rw [List.filter_append]
  congr 1
  simp [List.filter_cons]
theorem livH_len (bs : List Bool) (l : List H3) : (livH bs l).length ≤ l.length := List.length_filter_le _ _

theorem make_hs (n : Nat) (hn : n ≤ 262144) : ∃ cs : Array Value, cs.size = n * 3 ∧ ∀ w, (Instr.makeSlice 52 (.int .i64 0) (.int .i64 (n : Int))).run Try.prog w = .ok (.slice (some ⟨w.heap.size, 0, none⟩) 0 n) (w.alloc (.cells cs 57)) := by
  obtain ⟨i, hi, hzz⟩ := Option.map_eq_some_iff.1 Try.infoH
  simp only [Prod.mk.injEq] at hzz
  obtain ⟨hz, hs, hb⟩ := hzz
  refine ⟨madeCells #[.int .i64 0, .int .u64 0, .int .i64 0] (n * 3), by simp [size_madeCells], fun w => ?_⟩
  have hr := run_make (P := Try.prog) w 52 57 i _ Try.underlying52 hi hz .i64 .i64 0 n (by omega) (by omega) (by rw [hb]; omega) (by omega)
  simp only [Int.toNat_natCast, hs] at hr
  rw [hr]
  rfl
theorem alive_at {w : World} {ab m : Nat} {TB : TypeId} {bs : List Bool} (h : w.heap[ab]? = some (.cells (bC bs) TB (0, 0))) (hm : m < bs.length) : w.cell? ⟨ab, m, none⟩ = some (.bool (bs[m]?.getD false)) := by
  simp [World.cell?, h, bC, List.getElem?_eq_getElem hm]

set_option maxRecDepth 100000 in
set_option maxHeartbeats 2000000 in
theorem living_calls (rb ro ab : Nat) (cur : Array Value) (T TB : TypeId) (v : Value) (gn : Nat) (l : List H3) (bs : List Bool) (w : World) (hrow : w.heap[rb]? = some (.cells cur T (0, 0))) (hv : cur[ro]? = some v) (hgn : cur[ro + 1]? = some (.int .i64 gn)) (hh : HasHs w v l) (hab : w.heap[ab]? = some (.cells (bC bs) TB (0, 0))) (hg : gn ≤ l.length) (hl : l.length ≤ 262144) (hn : ∀ a ∈ l, 0 ≤ a.1 ∧ a.1 < (bs.length : Int)) :
    Calls Try.prog 69 #[.pointer (some ⟨rb, ro, none⟩), .slice (some ⟨ab, 0, none⟩) bs.length bs.length] w fun e w' => ∃ v', e = .returned v' ∧ w'.ownsRow w.heap.size 57 3 v' (livH bs l).length (flatH (livH bs l)) ∧ Below w.heap.size w w' := by
  obtain ⟨ao, c, rfl, -⟩ := id hh
  have d0 : w.cell? ⟨rb, ro, none⟩ = some (.slice ao l.length c) := by simpa [World.cell?, hrow] using hv
  have d1 : w.cell? ⟨rb, ro + 1, none⟩ = some (.int .i64 gn) := by simpa [World.cell?, hrow] using hgn
  have l0 : rb < w.heap.size := lt_of_get hrow
  have HM : Hid (HasHs w (.slice ao l.length c) l ∧ w.heap[ab]? = some (.cells (bC bs) TB (0, 0)) ∧ ∀ a ∈ l, 0 ≤ a.1 ∧ a.1 < (bs.length : Int)) := ⟨hh, hab, hn⟩
  have i0 : IntKind.i64.wrap ((l.length : Int) - (gn : Int)) = ((l.length - gn : Nat) : Int) := by rw [IntKind.wrap_i64] <;> omega
  obtain ⟨cs, hcs, hmk⟩ := make_hs (l.length - gn) (by omega)
  have HMK : Hid (∀ W1, (w.alloc (.cells cs 57)).drew = W1 → Below w.heap.size w W1 ∧ W1.ownsRow w.heap.size 57 3 (.slice (some ⟨w.heap.size, 0, none⟩) 0 (l.length - gn)) 0 []) := fun W1 e => by
    subst e
    exact ⟨((Below.refl _ w).alloc (Nat.le_refl _) _).drew, World.ownsRow_made w cs (l.length - gn) (Nat.le_refl _) (by unfold maxLen; omega) hcs⟩
  clear hrow hv hgn hh hab hn
  go_enter Try.func69, Try.ntmps69
  go_wp2_with fail
  go_region_held3 (fun w' => w'.cell? ⟨rb, ro, none⟩ = some (.slice ao l.length c) ∧ w'.cell? ⟨rb, ro + 1, none⟩ = some (.int .i64 gn)) (go_keep) (first | fail)
  generalize hW1 : (w.alloc (.cells cs 57)).drew = W1
  have H1 := HMK.out W1 hW1
  have d2 : W1.cell? ⟨rb, ro, none⟩ = some (.slice ao l.length c) := (H1.1.cell (p := ⟨rb, ro, none⟩) l0).trans d0
  have HW1 : Hid (Below w.heap.size w W1 ∧ W1.ownsRow w.heap.size 57 3 (.slice (some ⟨w.heap.size, 0, none⟩) 0 (l.length - gn)) 0 []) := H1
  clear H1 hW1 HMK hmk
  go_wp2_with fail
  go_loopw [24, 5] (fun iv lv wr => ∃ k po pc, k ≤ l.length ∧ iv = .int .i64 (k : Nat) ∧ lv = .slice po (livH bs (l.take k)).length pc ∧ wr.ownsRow w.heap.size 57 3 (.slice po (livH bs (l.take k)).length pc) (livH bs (l.take k)).length (flatH (livH bs (l.take k))) ∧ Below w.heap.size w wr) (fun iv _ _ => l.length - (intOf iv).toNat)
  case atStart => exact ⟨0, _, _, Nat.zero_le _, rfl, rfl, HW1.out.2, HW1.out.1⟩
  case round =>
    obtain ⟨k, po, pc, hk, rfl, rfl, ho, hb⟩ := hrel
    have HR : Hid (wr.ownsRow w.heap.size 57 3 (.slice po (livH bs (l.take k)).length pc) (livH bs (l.take k)).length (flatH (livH bs (l.take k))) ∧ Below w.heap.size w wr) := ⟨ho, hb⟩
    clear ho hb
    by_cases hlt : k < l.length
    · obtain ⟨a, ha⟩ : ∃ a, l[k]? = some a := ⟨l[k], List.getElem?_eq_getElem hlt⟩
      obtain ⟨b, off, rfl, bl, c0, c1, c2⟩ := (HM.out.1.keep HR.out.2).at ha
      obtain ⟨n0, n1⟩ := HM.out.2.2 a (List.mem_of_getElem? ha)
      have HLV : Hid (type_of% (livH_take_succ (bs := bs) ha)) := livH_take_succ (bs := bs) ha
      have HLL : Hid ((livH bs (l.take k)).length ≤ k) := by
        show _ ≤ _
        have h1 := livH_len bs (l.take k)
        rw [List.length_take] at h1
        omega
      obtain ⟨a0, a1, a2⟩ := a
      simp only at c0 c1 c2 n0 n1 HLV
      obtain ⟨m, rfl⟩ : ∃ m : Nat, a0 = (m : Int) := ⟨a0.toNat, by omega⟩
      have hm : m < bs.length := by omega
      have c3 : wr.cell? ⟨ab, m, none⟩ = some (.bool (bs[m]?.getD false)) := alive_at ((HR.out.2.block ab (lt_of_get HM.out.2.1)).trans HM.out.2.1) hm
      have l1 : ab < wr.heap.size := Nat.lt_of_lt_of_le (lt_of_get HM.out.2.1) HR.out.2.size
      have i1 : (k : Int) < (l.length : Int) := by omega
      have i2 : (0 : Int) ≤ (k : Int) := by omega
      rw [Int.toNat_natCast] at HLV
      clear ha
      cases hbm : bs[m]?.getD false with
      | true =>
        rw [hbm] at c3 HLV
        rw [if_pos rfl] at HLV
        have hbd : Below wr.heap.size wr ((wr.alloc (.cells #[.int .i64 (m : Int), .int .u64 a1, .int .i64 a2] 57)).alloc (.cells #[.int .i64 (m : Int), .int .u64 a1, .int .i64 a2] 57)) := ((Below.refl _ wr).alloc (Nat.le_refl _) _).alloc (by simp) _
        have hso := hs_one (wr.alloc (.cells #[.int .i64 (m : Int), .int .u64 a1, .int .i64 a2] 57)) ((m : Int), a1, a2) 57
        rw [show (wr.alloc (.cells #[.int .i64 (m : Int), .int .u64 a1, .int .i64 a2] 57)).heap.size = wr.heap.size + 1 by simp] at hso
        have HAP : Hid (((wr.alloc (.cells #[.int .i64 (m : Int), .int .u64 a1, .int .i64 a2] 57)).alloc (.cells #[.int .i64 (m : Int), .int .u64 a1, .int .i64 a2] 57)).ownsRow w.heap.size 57 3 (.slice po (livH bs (l.take k)).length pc) (livH bs (l.take k)).length (flatH (livH bs (l.take k))) ∧ HasHs ((wr.alloc (.cells #[.int .i64 (m : Int), .int .u64 a1, .int .i64 a2] 57)).alloc (.cells #[.int .i64 (m : Int), .int .u64 a1, .int .i64 a2] 57)) (.slice (some ⟨wr.heap.size + 1, 0, none⟩) 1 1) [((m : Int), a1, a2)] ∧ w.heap.size ≤ ((wr.alloc (.cells #[.int .i64 (m : Int), .int .u64 a1, .int .i64 a2] 57)).alloc (.cells #[.int .i64 (m : Int), .int .u64 a1, .int .i64 a2] 57)).heap.size ∧ Below w.heap.size w ((wr.alloc (.cells #[.int .i64 (m : Int), .int .u64 a1, .int .i64 a2] 57)).alloc (.cells #[.int .i64 (m : Int), .int .u64 a1, .int .i64 a2] 57))) := ⟨rowH_keep HR.out.1 hbd, hso, Nat.le_trans HR.out.2.size hbd.size, HR.out.2.trans (hbd.mono HR.out.2.size)⟩
        clear hbd hso
        generalize livH bs (l.take k) = L at *
        go_wp2_with (at_builtin; refine wpList_append_hs rfl _ _ rfl w.heap.size (.slice po L.length pc) L rfl HAP.out.1 (some ⟨wr.heap.size + 1, 0, none⟩) 1 [((m : Int), a1, a2)] rfl HAP.out.2.1 (fun e => by cases e) (by have := HLL.out; simp only [List.length_cons, List.length_nil]; omega) HAP.out.2.2.1 ?_; intro v3 w3 hown3 hgr3; obtain ⟨qo, qc, hv3⟩ := rowH_slice hown3; subst hv3; have Y3 : Hid (w3.ownsRow w.heap.size 57 3 (.slice qo (L ++ [((m : Int), a1, a2)]).length qc) (L ++ [((m : Int), a1, a2)]).length (flatH (L ++ [((m : Int), a1, a2)])) ∧ Below w.heap.size w w3) := ⟨hown3, belowH_grown HAP.out.2.2.2 HAP.out.1 hgr3 HAP.out.2.2.1⟩; clear hown3 hgr3)
        go_roundw
        case rel => exact ⟨k + 1, qo, qc, by omega, by go_num, by rw [HLV.out, List.length_append]; rfl, by rw [HLV.out]; exact Y3.out.1, Y3.out.2⟩
        case measure => simp [intOf]; omega
      | false =>
        rw [hbm] at c3 HLV
        rw [if_neg (by simp), List.append_nil] at HLV
        have hbd : Below wr.heap.size wr (wr.alloc (.cells #[.int .i64 (m : Int), .int .u64 a1, .int .i64 a2] 57)) := (Below.refl _ wr).alloc (Nat.le_refl _) _
        have HAP : Hid ((wr.alloc (.cells #[.int .i64 (m : Int), .int .u64 a1, .int .i64 a2] 57)).ownsRow w.heap.size 57 3 (.slice po (livH bs (l.take k)).length pc) (livH bs (l.take k)).length (flatH (livH bs (l.take k))) ∧ Below w.heap.size w (wr.alloc (.cells #[.int .i64 (m : Int), .int .u64 a1, .int .i64 a2] 57))) := ⟨rowH_keep HR.out.1 hbd, HR.out.2.trans (hbd.mono HR.out.2.size)⟩
        clear hbd
        go_wp2
        go_roundw
        case rel => exact ⟨k + 1, po, pc, by omega, by go_num, by rw [HLV.out], by rw [HLV.out]; exact HAP.out.1, HAP.out.2⟩
        case measure => simp [intOf]; omega
    · obtain rfl : k = l.length := by omega
      have HT : Hid (l.take l.length = l) := List.take_length
      rw [HT.out] at HR ⊢
      go_wp2
      go_ret
      exact ⟨_, rfl, HR.out⟩
end Go.Proofs.Ytcfpkbmeblfhoaa
