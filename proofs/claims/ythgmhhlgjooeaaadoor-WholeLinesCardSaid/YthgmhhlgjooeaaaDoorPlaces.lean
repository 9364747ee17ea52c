/- fault.Places over chains that end in a number or in nothing: a new list of the places of the first 64 links; nothing that was there turns. -/
import Derived.Test.YthgmhhlgjooeaaaDoorCode
namespace Go.Proofs.YthgmhhlgjooeaaaDoor.F1
open Go.RowKit Go.Extern

theorem Tryd.info34 : (Tryd.prog.info? 37).map (fun i => (i.zero, i.size, i.bytes)) = some (some (.agg #[.int .i64 0, .int .i64 0]), 2, 16) := by kernel_rfl

/-- the cells of a list of places. -/
def flat : List (Int × Int) → List Value
  | [] => []
  | p :: ps => .int .i64 p.1 :: .int .i64 p.2 :: flat ps
theorem flat_append (a b : List (Int × Int)) : flat (a ++ b) = flat a ++ flat b := by
  induction a with
  | nil => rfl
  | cons p a ih => simp [flat, ih]

theorem ownsRow_keep {w w' : World} {base : Nat} {e : TypeId} {size : Nat} {v : Value} {n : Nat} {xs : List Value} (h : w.ownsRow base e size v n xs)
    (hk : ∀ (g : Nat) (cur : Array Value), w.heap[g]? = some (.cells cur e) → w'.heap[g]? = w.heap[g]?) : w'.ownsRow base e size v n xs := by
  obtain ⟨h1, h2⟩ := h
  refine ⟨h1, ?_⟩
  rcases h2 with h2 | ⟨g, cap, cur, hv, hg, hh, r⟩
  · exact Or.inl h2
  · exact Or.inr ⟨g, cap, cur, hv, hg, (hk g cur hh).trans hh, r⟩

/-- what holds at each round of Places' loop. -/
structure PlInv (w : World) (tv : Value) (dn lf : List (Int × Int)) (pl rest : Value) (wr : World) : Prop where
  own : wr.ownsRow w.heap.size 37 2 pl dn.length (flat dn)
  err : IsErr wr tv lf rest
  below : Below w.heap.size w wr
  var : ∃ fv, wr.heap[w.heap.size]? = some (.cells #[fv] 47)

/-- a round's end: the place is laid behind the others. -/
theorem PlInv.next {w wr w2 w3 : World} {tv : Value} {dn lf : List (Int × Int)} {pl rest v' u fv : Value} {p : Int × Int} {o : Obj} {b : Nat} (h : PlInv w tv dn (p :: lf) pl rest wr)
    (hb : wr.heap[b]? = some (.cells #[.int .i64 p.1, .int .i64 p.2, u] 49)) (hr : IsErr wr tv lf u)
    (h2 : w2.heap[w.heap.size]? = some (.cells #[fv] 47)) (ht : Touch w.heap.size wr w2)
    (ho : w3.ownsRow w.heap.size 37 2 v' (dn.length + 1) (flat dn ++ [.int .i64 p.1, .int .i64 p.2])) (hg : (w2.alloc o).grownBy w3 pl.ownBlock) :
    PlInv w tv (dn ++ [p]) lf v' u w3 ∧ w3.heap[w.heap.size]? = some (.cells #[fv] 47) ∧ w3.heap[b]? = some (.cells #[.int .i64 p.1, .int .i64 p.2, u] 49) := by
  obtain ⟨fv0, hv0⟩ := h.var
  have hs2 := ht.size
  have hlt : w.heap.size < wr.heap.size := lt_of_get hv0
  -- the row's own block holds places
  have hrow : ∀ k, pl.ownBlock = some k → ∃ cur, wr.heap[k]? = some (.cells cur 37) := fun k hk => by
    rcases h.own.2 with ⟨rfl, _⟩ | ⟨g, cap, cur, rfl, hg, hh, _⟩
    · cases hk
    · cases hk; exact ⟨cur, hh⟩
  have hold : ∀ k c (T : TypeId), T ≠ 37 → k ≠ w.heap.size → wr.heap[k]? = some (.cells c T) → w3.heap[k]? = some (.cells c T) := fun k c T hT hne hk => by
    have hlk := lt_of_get hk
    rw [hg.block k (by simp; omega) (fun e => by
      obtain ⟨cur, hc⟩ := hrow k e.symm
      rw [hk] at hc
      simp only [Option.some.injEq, Obj.cells.injEq] at hc
      exact hT hc.2.1), Below.heap_alloc _ _ _ (by omega), ht.block k hlk hne]
    exact hk
  have hv3 : w3.heap[w.heap.size]? = some (.cells #[fv] 47) := by
    rw [hg.block _ (by simp; omega) (fun e => by
      obtain ⟨cur, hc⟩ := hrow _ e.symm
      rw [hv0] at hc
      simp at hc), Below.heap_alloc _ _ _ (by omega)]
    exact h2
  have hne36 : ∀ k c, wr.heap[k]? = some (.cells c 49) → k ≠ w.heap.size := fun k c hk e => by
    subst e
    rw [hv0] at hk
    simp at hk
  refine ⟨⟨?_, ?_, ?_, ⟨fv, hv3⟩⟩, hv3, hold b _ 49 (by decide) (hne36 _ _ hb) hb⟩
  · rw [flat_append, List.length_append]
    exact ho
  · exact hr.keep (fun k c hk => hold k c 49 (by decide) (hne36 _ _ hk) hk)
  · refine ⟨hg.os.trans (ht.os.trans h.below.os), hg.tape.trans (ht.tape.trans h.below.tape), hg.output.trans (ht.output.trans h.below.output), ?_, fun k hk => ?_⟩
    · have := hg.size; simp at this; omega
    · rw [hg.block k (by simp; omega) (fun e => by have := h.own.lt k e.symm; omega), Below.heap_alloc _ _ _ (by omega), ht.block k (by omega) (by omega)]
      exact h.below.block k hk

set_option maxHeartbeats 4000000 in
theorem places_calls {tv : Value} (htv : tv = .nilIface ∨ ∃ n, tv = .iface 27 (.int .i64 n)) (ps : List (Int × Int)) (v : Value) (w : World) (hv : IsErr w tv ps v) (hg : HasType w) :
    Calls Tryd.prog 8 #[v] w fun e w' => ∃ pl, e = .returned pl ∧ w'.ownsRow w.heap.size 37 2 pl (ps.take 64).length (flat (ps.take 64)) ∧ Below w.heap.size w w' := by
  obtain ⟨i0, hi, hz0, hz1, hz2⟩ : ∃ i, Tryd.prog.info? 37 = some i ∧ i.zero = some (.agg #[.int .i64 0, .int .i64 0]) ∧ i.size = 2 ∧ i.bytes = 16 := by
    have h := Tryd.info34
    cases hi : Tryd.prog.info? 37 with
    | none => rw [hi] at h; cases h
    | some i => rw [hi] at h; simp at h; exact ⟨i, rfl, h.1, h.2.1, h.2.2⟩
  have hb0 : Below w.heap.size w (w.alloc (.cells #[.pointer none] 47)) := (Below.refl _ _).alloc (Nat.le_refl _) _
  have HV : Hid (IsErr (w.alloc (.cells #[.pointer none] 47)) tv ps v) := hv.keep (Below.keeps hb0)
  have HN : Hid ((w.alloc (.cells #[.pointer none] 47)).heap[w.heap.size]? = some (.cells #[.pointer none] 47)) := heap_new _ _
  have HG : Hid (HasType w) := hg
  have hg0 : 0 < w.heap.size := hg.pos
  have HT : Hid (tv = .nilIface ∨ ∃ n, tv = .iface 27 (.int .i64 n)) := htv
  clear hv hg htv
  go_enter Tryd.func8, Tryd.ntmps8
  go_wp2_with fail
  refine (counted_calls HT.out 64 ps v _ (by omega) HV.out).mono ?_
  rintro e w1 ⟨v1, rfl, h1, hb1⟩
  have hct : cutTail tv ps 64 = .nilIface ∨ ∃ n, cutTail tv ps 64 = .iface 27 (.int .i64 n) := by
    unfold cutTail; split
    · exact HT.out
    · exact Or.inl rfl
  have hlen : (ps.take 64).length ≤ 64 := by simp; omega
  generalize hqs : ps.take 64 = qs at *
  have HQ : Hid (ps.take 64 = qs) := hqs
  clear hqs
  generalize cutTail tv ps 64 = tv' at *
  have HI : Hid (PlInv w tv' [] qs (.slice none 0 0) v1 w1) := ⟨World.ownsRow_nil _ _ _ _, h1, hb0.trans (hb1.mono (by simp)), ⟨_, (hb1.block _ (by simp)).trans HN.out⟩⟩
  have HT' : Hid (tv' = .nilIface ∨ ∃ n, tv' = .iface 27 (.int .i64 n)) := hct
  clear h1 hct hb1 hb0
  go_wp2_with fail
  go_loopw [3, 5] (fun pl rest wr => ∃ dn lf, dn ++ lf = qs ∧ PlInv w tv' dn lf pl rest wr) (fun _ rest wr => depthOf wr 64 rest)
  case atStart => exact ⟨[], qs, rfl, HI.out⟩
  case round =>
    obtain ⟨dn, lf, hq, hinv⟩ := hrel
    obtain ⟨fv, hf⟩ := hinv.var
    have hlt := lt_of_get hf
    have HGr : Hid (HasType wr) := HG.out.keep hinv.below hg0
    have HF : Hid (wr.heap[w.heap.size]? = some (.cells #[fv] 47)) := hf
    have HQd : Hid (dn ++ lf = qs) := hq
    have hdl : dn.length + lf.length ≤ 64 := by rw [← hq, List.length_append] at hlen; exact hlen
    clear hf hq hlen
    have HINV : Hid (PlInv w tv' dn lf u3 u5 wr) := hinv
    cases lf with
    | nil =>
      have hu : u5 = tv' := hinv.err
      clear hinv
      subst hu
      rcases HT'.out with h | ⟨n, h⟩
      · subst h
        go_wp2_with (go_at_call 20; refine (as_nil _ _).mono ?_; rintro e w' ⟨rfl, rfl⟩)
        go_ret
        refine ⟨_, rfl, ?_, HINV.out.below⟩
        rw [HQ.out, ← HQd.out, List.append_nil]
        exact HINV.out.own
      · subst h
        go_wp2_with (go_at_call 20; refine (as_fault_no _ _ _ HGr.out).mono ?_; rintro e w' ⟨rfl, hB⟩)
        go_ret
        refine ⟨_, rfl, ?_, HINV.out.below.trans (hB.mono (by omega))⟩
        rw [HQ.out, ← HQd.out, List.append_nil]
        exact ownsRow_keep HINV.out.own (fun g cur h => hB.block g (lt_of_get h))
    | cons p lf =>
      obtain ⟨b, u, hu, hb, hr⟩ := hinv.err
      clear hinv
      subst hu
      have HB : Hid (wr.heap[b]? = some (.cells #[.int .i64 p.1, .int .i64 p.2, u] 49)) := hb
      have HR : Hid (IsErr wr tv' lf u) := hr
      have hbne : b ≠ w.heap.size := fun e => by
        subst e
        rw [HF.out] at hb
        simp at hb
      have hblt := lt_of_get hb
      clear hb hr
      go_wp2_with fail
      refine (as_fault ⟨b, 0, none⟩ w.heap.size fv wr HGr.out HF.out).mono ?_
      rintro e w2 ⟨rfl, h2, ht⟩
      have hb2 : w2.heap[b]? = some (.cells #[.int .i64 p.1, .int .i64 p.2, u] 49) := (ht.block b hblt hbne).trans HB.out
      obtain ⟨c0, c1, c2⟩ := cell_of_fault hb2
      have cf := (cell_one h2).1
      have hs2 : w.heap.size < w2.heap.size := by have := ht.size; omega
      have HO2 : Hid (w2.ownsRow w.heap.size 37 2 u3 dn.length (flat dn)) := ownsRow_keep HINV.out.own (fun g cur h => ht.block g (lt_of_get h) (fun e => by
        subst e
        rw [HF.out] at h
        simp at h))
      have H2 : Hid (w2.heap[w.heap.size]? = some (.cells #[.pointer (some ⟨b, 0, none⟩)] 47)) := h2
      have HTt : Hid (Touch w.heap.size wr w2) := ht
      clear h2 ht hb2
      go_wp2_with (at_builtin; refine wpList_append_own _ rfl _ _ 34 rfl w.heap.size 37 i0 (.agg #[.int .i64 0, .int .i64 0]) 2 16 Tryd.underlying34 hi hz0 hz1 hz2 rfl (by decide) u3 dn.length (flat dn) rfl ?hown ⟨w2.heap.size, 0, none⟩ 1 1 [.int .i64 p.1, .int .i64 p.2] rfl rfl ?hnews ?hone ?h63 ?hby ?hbase ?_; (case hown => exact HO2.out.alloc _); (case hnews => intro j x hx; rcases j with _ | _ | j <;> simp at hx <;> subst hx <;> simp [Addr.add]); (case hone => intro x hx; simp at hx; rcases hx with rfl | rfl <;> rfl); (case h63 => unfold maxLen; omega); (case hby => omega); (case hbase => simp; omega); intro v' w3 hown' hgrow3 hnil3; have HNX := HINV.out.next HB.out HR.out H2.out HTt.out hown' hgrow3; have cf3 := (cell_one HNX.2.1).1; have cb3 := (cell_of_fault HNX.2.2).2.2)
      refine ⟨⟨dn ++ [p], lf, ?_, HNX.1⟩, ?_⟩
      · rw [List.append_assoc]; exact HQd.out
      · simp at hdl
        have d0 : ∀ (W : World) n, depthOf W n tv' = 0 := fun W n => by
          rcases HT'.out with h | ⟨m, h⟩
          · subst h; exact depthNil W n
          · subst h; exact depth24 W n _
        rw [depth_isErr (d0 w3) 64 HNX.1.err (by omega), depth_isErr (d0 wr) 64 HINV.out.err (by simp; omega)]
        simp
end Go.Proofs.YthgmhhlgjooeaaaDoor.F1
