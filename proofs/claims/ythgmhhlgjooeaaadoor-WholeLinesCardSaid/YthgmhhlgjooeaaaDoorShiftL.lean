/- fault.Shift: its loop: the places of a kind moved, from the last to the first. -/
import Derived.Test.YthgmhhlgjooeaaaDoorBack
import Derived.Test.YthgmhhlgjooeaaaDoorGen
namespace Go.Proofs.YthgmhhlgjooeaaaDoor.F1
open Go.RowKit Go.Extern Go.Shelf

attribute [local go_sem] Oper.semAt_some

/-- a place, moved if it is of the kind. -/
def moved (kd by_ : Int) (p : Int × Int) : Int × Int := if p.1 = kd then (p.1, wrap64 (p.2 + by_)) else p
/-- what is made of the places that have come. -/
def made (kd by_ : Int) (pre : List (Nat × (Int × Int))) : List (Int × Int) := (pre.map (fun x => moved kd by_ x.2)).reverse
theorem made_snoc (kd by_ : Int) (pre : List (Nat × (Int × Int))) (x : Nat × (Int × Int)) : made kd by_ (pre ++ [x]) = moved kd by_ x.2 :: made kd by_ pre := by simp [made]
theorem keeps_own {A B : World} {row : Option Nat} (hg : A.grownBy B row) (hr : ∀ r, row = some r → ∃ o : Obj, A.heap[r]? = some o ∧ o.isCells = false) : Keeps A B := fun b c hb => by
  rw [hg.block b (lt_of_get hb) (fun e => by
    obtain ⟨o, h1, h2⟩ := hr b e.symm
    rw [hb] at h1
    cases h1
    cases h2)]
  exact hb
def ShiftI (n0 : Nat) (w : World) (kd by_ : Int) (T0 : Value) (pre : List (Nat × (Int × Int))) (W : World) : Prop :=
  ((Boxed W n0 26 (.int .i64 kd) ∧ Boxed W (n0 + 1) 3 (.int .i64 by_)) ∧ ∃ sv, Boxed W (n0 + 1 + 1) 24 sv ∧ IsErr W T0 (made kd by_ pre) sv) ∧ Below n0 w W
theorem shiftI_own {n0 B : Nat} {w : World} {kd by_ : Int} {T0 : Value} (hn : n0 ≤ w.heap.size) (hB : n0 ≤ B) : OwnFrom B (ShiftI n0 w kd by_ T0) := by
  rintro pre A C row ⟨⟨⟨b0, b1⟩, sv, b2, he⟩, hb⟩ hg hr
  have hr2 := fun r e => (hr r e).2
  exact ⟨⟨⟨boxed_own _ _ (fun (_ : Unit) => Value.int .i64 kd) () A C row b0 hg hr2, boxed_own _ _ (fun (_ : Unit) => Value.int .i64 by_) () A C row b1 hg hr2⟩, sv, boxed_own _ _ (fun (_ : Unit) => sv) () A C row b2 hg hr2, he.keep (keeps_own hg hr2)⟩, hb.grown hg (by have := hb.size; omega) (fun j e => by have := (hr j e).1; omega)⟩

theorem stays_alloc {B : Nat → Prop} {W : World} (h : ∀ b, B b → b < W.heap.size) (o : Obj) : Stays B W (W.alloc o) := fun b hb => Below.heap_alloc W o b (h b hb)
theorem stays_setCell {B : Nat → Prop} {W : World} {p : Addr} (h : ¬ B p.block) (v : Value) : Stays B W (W.setCell p v) := fun b hb => heap_setCell_other W p b v (fun e => h (e ▸ hb))
theorem keeps_setCell {W : World} {p : Addr} {c : Array Value} {t : TypeId} (h : W.heap[p.block]? = some (.cells c t)) (ht : t ≠ 49) (v : Value) : Keeps W (W.setCell p v) := fun b d hb => by
  rw [heap_setCell_other W p b v (fun e => by rw [e, h] at hb; cases hb; exact ht rfl)]
  exact hb
theorem keeps_alloc (W : World) (o : Obj) : Keeps W (W.alloc o) := Below.keeps ((Below.refl _ _).alloc (Nat.le_refl _) o)
theorem err_val {W : World} {T0 : Value} (hT0 : T0 = .nilIface ∨ ∃ m, T0 = .iface 27 (.int .i64 m)) : ∀ {ms : List (Int × Int)} {sv : Value}, IsErr W T0 ms sv → sv = .nilIface ∨ ∃ t y, sv = .iface t y
  | [], _, h => by
    cases h
    rcases hT0 with h | ⟨m, h⟩
    · exact Or.inl h
    · exact Or.inr ⟨_, _, h⟩
  | _ :: _, _, ⟨_, _, h, _⟩ => Or.inr ⟨_, _, h⟩
theorem shift_step {n0 B : Nat} {w W : World} {kd by_ : Int} {T0 sv : Value} {ms : List (Int × Int)} {R : Nat → Prop} (p : Int × Int) (hb : (Boxed W n0 26 (.int .i64 kd) ∧ Boxed W (n0 + 1) 3 (.int .i64 by_)) ∧ Boxed W (n0 + 1 + 1) 24 sv) (he : IsErr W T0 ms sv) (hB : Below n0 w W) (hR : ∀ b, R b → b < W.heap.size ∧ b ≠ n0 + 1 + 1) :
    KeepsFrom B W ((W.setCell ⟨n0 + 1 + 1, 0, none⟩ (.iface 47 (.pointer (some ⟨W.heap.size, 0, none⟩)))).alloc (.cells #[.int .i64 p.1, .int .i64 p.2, sv] 49)) ∧
    Stays R W ((W.setCell ⟨n0 + 1 + 1, 0, none⟩ (.iface 47 (.pointer (some ⟨W.heap.size, 0, none⟩)))).alloc (.cells #[.int .i64 p.1, .int .i64 p.2, sv] 49)) ∧
    (((Boxed ((W.setCell ⟨n0 + 1 + 1, 0, none⟩ (.iface 47 (.pointer (some ⟨W.heap.size, 0, none⟩)))).alloc (.cells #[.int .i64 p.1, .int .i64 p.2, sv] 49)) n0 26 (.int .i64 kd) ∧ Boxed ((W.setCell ⟨n0 + 1 + 1, 0, none⟩ (.iface 47 (.pointer (some ⟨W.heap.size, 0, none⟩)))).alloc (.cells #[.int .i64 p.1, .int .i64 p.2, sv] 49)) (n0 + 1) 3 (.int .i64 by_)) ∧
      ∃ s', Boxed ((W.setCell ⟨n0 + 1 + 1, 0, none⟩ (.iface 47 (.pointer (some ⟨W.heap.size, 0, none⟩)))).alloc (.cells #[.int .i64 p.1, .int .i64 p.2, sv] 49)) (n0 + 1 + 1) 24 s' ∧ IsErr ((W.setCell ⟨n0 + 1 + 1, 0, none⟩ (.iface 47 (.pointer (some ⟨W.heap.size, 0, none⟩)))).alloc (.cells #[.int .i64 p.1, .int .i64 p.2, sv] 49)) T0 (p :: ms) s') ∧
      Below n0 w ((W.setCell ⟨n0 + 1 + 1, 0, none⟩ (.iface 47 (.pointer (some ⟨W.heap.size, 0, none⟩)))).alloc (.cells #[.int .i64 p.1, .int .i64 p.2, sv] 49))) := by
  obtain ⟨⟨b0, b1⟩, b2⟩ := hb
  have hlt := b2.lt
  have hs : (W.setCell ⟨n0 + 1 + 1, 0, none⟩ (.iface 47 (.pointer (some ⟨W.heap.size, 0, none⟩)))).heap.size = W.heap.size := by simp
  have hk : Keeps W ((W.setCell ⟨n0 + 1 + 1, 0, none⟩ (.iface 47 (.pointer (some ⟨W.heap.size, 0, none⟩)))).alloc (.cells #[.int .i64 p.1, .int .i64 p.2, sv] 49)) := (keeps_setCell (p := ⟨n0 + 1 + 1, 0, none⟩) b2 (by decide) _).trans (keeps_alloc _ _)
  refine ⟨((KeepsOthers.setCell W _ _).trans (KeepsOthers.alloc _ _)).from _, (stays_setCell (p := ⟨n0 + 1 + 1, 0, none⟩) (fun h => (hR _ h).2 rfl) _).trans (stays_alloc (fun b hb => by rw [hs]; exact (hR b hb).1) _), ⟨⟨(b0.other (by omega) _).alloc _, (b1.other (by omega) _).alloc _⟩, _, (b2.set _).alloc _, W.heap.size, sv, rfl, ?_, he.keep hk⟩, ?_⟩
  · have h := heap_new (W.setCell ⟨n0 + 1 + 1, 0, none⟩ (.iface 47 (.pointer (some ⟨W.heap.size, 0, none⟩)))) (.cells #[.int .i64 p.1, .int .i64 p.2, sv] 49)
    rw [hs] at h
    exact h
  · exact (hB.setCell (p := ⟨n0 + 1 + 1, 0, none⟩) (by show n0 ≤ n0 + 1 + 1; omega) _).alloc (by rw [hs]; omega) _

set_option maxRecDepth 100000 in
set_option maxHeartbeats 4000000 in
theorem shift_loop (n0 : Nat) (w w2 : World) (kd by_ : Int) (T0 v t8 t12 t13 t14 t15 t16 : Value) (po : Option Addr) (pcap : Nat) (qs : List (Int × Int)) (hlen : qs.length ≤ 64) (hn0 : n0 ≤ w.heap.size)
    (hl : HasPlaces w2 (.slice po qs.length pcap) qs) (hT0 : T0 = .nilIface ∨ ∃ m, T0 = .iface 27 (.int .i64 m)) (hI0 : ShiftI n0 w kd by_ T0 [] w2) (hpo : ∀ a, po = some a → n0 + 1 + 1 < a.block ∧ a.block < w2.heap.size) (Q : Exit → Act → World → Prop)
    (hdone : ∀ (D : Nat) (W : World), w2.heap.size + 1 ≤ D → ShiftI n0 w kd by_ T0 (come qs qs.length) W → W.heap[D]? = some (.deferred (some [])) → Q .normal { tmps := #[v, .int .i64 kd, .int .i64 by_, undef, .pointer (some ⟨n0, 0, none⟩), .pointer (some ⟨n0 + 1, 0, none⟩), .nilIface, .pointer (some ⟨n0 + 1 + 1, 0, none⟩), t8, undef, undef, v, t12, t13, t14, t15, t16, v, .slice po qs.length pcap, .func (.func 36) #[] #[.pointer (some ⟨w2.heap.size, 0, none⟩)], undef, undef, undef, undef, undef, undef, undef, undef, undef, undef, undef, undef, undef, undef, undef, undef, undef], defers := [{ target := .collected D, args := #[] }] } W) :
    Code.wpIn Fence.wide 5 Tryd.prog
    (Code.rangeFunc (Operand.tmp 19) #[20, 21]
      (Code.region 6
        #[{ dst := some 10, op := Op.alloc 37, type := 0, pos := "fault.go:75", after := #[], guard := none },
          { dst := none, op := Op.store 37 (Operand.tmp 10) (Operand.tmp 21), type := 0, pos := "fault.go:75",
            after := #[{ on := 0, ground := Ground.data }, { on := 0, ground := Ground.phase }], guard := none }]
        false)
      (Code.block 1
        (((Code.region 7
                  #[{ dst := some 22, op := Op.fieldAddr 37 (Operand.tmp 10) 0, type := 0, pos := "fault.go:76",
                      after := #[], guard := none },
                    { dst := some 23, op := Op.load 26 (Operand.tmp 22), type := 26, pos := "fault.go:76",
                      after := #[{ on := 0, ground := Ground.data }], guard := none },
                    { dst := some 24, op := Op.load 26 (Operand.tmp 4), type := 26, pos := "fault.go:76", after := #[],
                      guard := none },
                    { dst := some 25, op := Op.binOp BinOp.eql 26 (Operand.tmp 23) (Operand.tmp 24) 26, type := 4,
                      pos := "fault.go:76",
                      after := #[{ on := 1, ground := Ground.data }, { on := 2, ground := Ground.data }],
                      guard := none }]
                  false).seq
              (Code.cond (Operand.tmp 25)
                (Code.region 8
                  #[{ dst := some 26, op := Op.fieldAddr 37 (Operand.tmp 10) 1, type := 0, pos := "fault.go:77",
                      after := #[], guard := none },
                    { dst := some 27, op := Op.load 3 (Operand.tmp 26), type := 3, pos := "fault.go:77",
                      after := #[{ on := 0, ground := Ground.data }], guard := none },
                    { dst := some 28, op := Op.load 3 (Operand.tmp 5), type := 3, pos := "fault.go:77", after := #[],
                      guard := none },
                    { dst := some 29, op := Op.binOp BinOp.add 3 (Operand.tmp 27) (Operand.tmp 28) 3, type := 3,
                      pos := "fault.go:77",
                      after := #[{ on := 1, ground := Ground.data }, { on := 2, ground := Ground.data }],
                      guard := none },
                    { dst := some 30, op := Op.fieldAddr 37 (Operand.tmp 10) 1, type := 0, pos := "fault.go:77",
                      after :=
                        #[{ on := 0, ground := Ground.phase }, { on := 1, ground := Ground.phase },
                          { on := 2, ground := Ground.phase }, { on := 3, ground := Ground.phase }],
                      guard := none },
                    { dst := none, op := Op.store 3 (Operand.tmp 30) (Operand.tmp 29), type := 0, pos := "fault.go:77",
                      after :=
                        #[{ on := 4, ground := Ground.data }, { on := 3, ground := Ground.data },
                          { on := 0, ground := Ground.phase }, { on := 1, ground := Ground.phase },
                          { on := 2, ground := Ground.phase }, { on := 3, ground := Ground.phase }],
                      guard := none }]
                  false)
                Code.skip)).seq
          (Code.region 9
            #[{ dst := some 31, op := Op.load 37 (Operand.tmp 10), type := 37, pos := "fault.go:80", after := #[],
                guard := none },
              { dst := some 32, op := Op.load 24 (Operand.tmp 7), type := 24, pos := "fault.go:80", after := #[],
                guard := none },
              { dst := some 33, op := Op.build 49 #[(0, Operand.tmp 31), (1, Operand.tmp 32)], type := 49,
                pos := "fault.go:80",
                after := #[{ on := 0, ground := Ground.data }, { on := 1, ground := Ground.data }], guard := none },
              { dst := some 34, op := Op.box 49 (Operand.tmp 33), type := 47, pos := "fault.go:80",
                after := #[{ on := 2, ground := Ground.data }], guard := none },
              { dst := some 35, op := Op.makeInterface 47 (Operand.tmp 34), type := 24, pos := "fault.go:80",
                after := #[{ on := 3, ground := Ground.data }], guard := none },
              { dst := none, op := Op.store 24 (Operand.tmp 7) (Operand.tmp 35), type := 0, pos := "fault.go:80",
                after :=
                  #[{ on := 4, ground := Ground.data }, { on := 0, ground := Ground.phase },
                    { on := 1, ground := Ground.phase }, { on := 2, ground := Ground.phase },
                    { on := 3, ground := Ground.phase }, { on := 4, ground := Ground.phase }],
                guard := none }]
            false)))) Q { tmps := #[v, .int .i64 kd, .int .i64 by_, undef, .pointer (some ⟨n0, 0, none⟩), .pointer (some ⟨n0 + 1, 0, none⟩), .nilIface, .pointer (some ⟨n0 + 1 + 1, 0, none⟩), t8, undef, undef, v, t12, t13, t14, t15, t16, v, .slice po qs.length pcap, .func (.func 36) #[] #[.pointer (some ⟨w2.heap.size, 0, none⟩)], undef, undef, undef, undef, undef, undef, undef, undef, undef, undef, undef, undef, undef, undef, undef, undef, undef], defers := [] } (w2.alloc (.cells #[.slice po qs.length pcap] 34)) := by
  have hsz := hI0.2.size
  have hlt2 : n0 + 1 + 1 < w2.heap.size := by obtain ⟨_, _, b, _⟩ := hI0.1; exact b.lt
  have hl1 : HasPlaces (w2.alloc (.cells #[.slice po qs.length pcap] 34)) (.slice po qs.length pcap) qs := hl.keep ((Below.refl w2.heap.size w2).alloc (Nat.le_refl _) _)
  have hbx : Boxed (w2.alloc (.cells #[.slice po qs.length pcap] 34)) w2.heap.size 34 (.slice po qs.length pcap) := Boxed.new w2 34 _
  have hI1 : ShiftI n0 w kd by_ T0 [] (w2.alloc (.cells #[.slice po qs.length pcap] 34)) := (shiftI_own (by omega) (Nat.le_refl n0)).alloc _ hI0
  have hs3 : (w2.alloc (.cells #[.slice po qs.length pcap] 34)).heap.size = w2.heap.size + 1 := by simp
  obtain ⟨W3, hW3⟩ : ∃ W3, w2.alloc (.cells #[.slice po qs.length pcap] 34) = W3 := ⟨_, rfl⟩
  rw [hW3] at hl1 hbx hI1 hs3 ⊢
  have hs4 : w2.heap.size + 1 ≤ W3.heap.size := by omega
  have hs5 : W3.heap.size ≤ w2.heap.size + 1 := by omega
  clear hs3 hW3
  have hKb : ∀ (W : World) (l : Nat) (o o' : Obj), W3.heap.size ≤ l → W.heap[l]? = some o → o.isCells = false → o.isWalk = false → Stays (fun b => b = w2.heap.size ∨ ∃ a, po = some a ∧ a.block = b) W (W.putObj l o') := by
    intro W l o o' hl ho _ _ b hb
    refine World.putObj_heap_other ?_
    rcases hb with rfl | ⟨a, ha, rfl⟩
    · omega
    · have := (hpo a ha).2; omega
  refine wpIn_rangeFunc_ownH rfl (n := 5) (by decide) (gf := 36) (lb := #[.pointer (some ⟨w2.heap.size, 0, none⟩)]) rfl trivial (enters_of Tryd.func36 (by kernel_rfl) rfl)
    (back_stops Fence.wide _ trivial rfl (by decide) w2.heap.size po pcap qs hlen W3 (by omega) hbx.cell hl1) (fun h k => h.trans k)
    hKb (Below.refl _ _) (fun _ => rfl)
    (fun pre W => ShiftI n0 w kd by_ T0 pre W ∧ W3.heap.size ≤ W.heap.size) (fun _ _ _ => False) (OwnFrom.and (shiftI_own (by omega) (by omega)) (fun _ _ _ _ h hg _ => Nat.le_trans h hg.size)) (fun _ _ _ _ _ hs _ _ => hs) ⟨hI1, Nat.le_refl _⟩
    (fun x a' W => ∃ Bx, W3.heap.size ≤ Bx ∧ W.heap[Bx]? = some (.cells #[.int .i64 x.2.1, .int .i64 x.2.2] 37) ∧ a' = { tmps := #[v, .int .i64 kd, .int .i64 by_, undef, .pointer (some ⟨n0, 0, none⟩), .pointer (some ⟨n0 + 1, 0, none⟩), .nilIface, .pointer (some ⟨n0 + 1 + 1, 0, none⟩), t8, undef, .pointer (some ⟨Bx, 0, none⟩), v, t12, t13, t14, t15, t16, v, .slice po qs.length pcap, .func (.func 36) #[] #[.pointer (some ⟨w2.heap.size, 0, none⟩)], .int .i64 (x.1 : Int), .agg #[.int .i64 x.2.1, .int .i64 x.2.2], undef, undef, undef, undef, undef, undef, undef, undef, undef, undef, undef, undef, undef, undef, undef], defers := [] })
    (fun x a' _ X Y row hs hg hr => by obtain ⟨Bx, h1, h2, h3⟩ := hs; exact ⟨Bx, h1, (hg.block Bx (lt_of_get h2) (fun e => by obtain ⟨o, g1, g2⟩ := (hr Bx e.symm).2; rw [h2] at g1; cases g1; cases g2)).trans h2, h3⟩)
    ?assign ?body ?done ?stop
  case assign =>
    rintro l pre x W K ⟨hi, hK3⟩ hK
    have HI : Hid (ShiftI n0 w kd by_ T0 pre W) := hi
    clear hi
    dsimp only [backs]
    gi_wp2
    exact hK _ _ ((KeepsOthers.alloc _ _).from _) (stays_alloc (by rintro b (rfl | ⟨a, ha, rfl⟩); (· omega); (· have := (hpo a ha).2; omega)) _) ⟨(shiftI_own hn0 (Nat.le_refl n0)).alloc _ HI.out, by simp; omega⟩ ⟨W.heap.size, hK3, heap_new _ _, rfl⟩
  case body =>
    rintro l pre x a' W hl' _ ⟨hi, hK3⟩ ⟨Bx, hBx, bX, rfl⟩ hlt
    obtain ⟨⟨⟨b0, b1⟩, sv, b2, he⟩, hb⟩ := hi
    have HE : Hid (IsErr W T0 (made kd by_ pre) sv) := he
    have HB : Hid (Below n0 w W) := hb
    have H012 : Hid ((Boxed W n0 26 (.int .i64 kd) ∧ Boxed W (n0 + 1) 3 (.int .i64 by_)) ∧ Boxed W (n0 + 1 + 1) 24 sv) := ⟨⟨b0, b1⟩, b2⟩
    have HX : Hid (W.heap[Bx]? = some (.cells #[.int .i64 x.2.1, .int .i64 x.2.2] 37)) := bX
    have c0 := b0.cell
    have c1 := b1.cell
    have c2 := b2.cell
    have z2 := b2.frozen
    obtain ⟨d0, d1, y0, y1⟩ := cell_two bX
    have hsv := err_val hT0 he
    clear b0 b1 b2 he hb bX
    have hRW : ∀ b, (b = w2.heap.size ∨ ∃ a, po = some a ∧ a.block = b) → b < W.heap.size ∧ b ≠ n0 + 1 + 1 := by
      rintro b (rfl | ⟨a, ha, rfl⟩)
      · exact ⟨by omega, by omega⟩
      · have := hpo a ha; exact ⟨by omega, by omega⟩
    have HRW : Hid (∀ b, (b = w2.heap.size ∨ ∃ a, po = some a ∧ a.block = b) → b < W.heap.size ∧ b ≠ n0 + 1 + 1) := hRW
    have HM : Hid (made kd by_ (pre ++ [x]) = moved kd by_ x.2 :: made kd by_ pre) := made_snoc kd by_ pre x
    clear hRW
    by_cases hk : x.2.1 = kd
    · have HMV : Hid (moved kd by_ x.2 = (kd, wrap64 (x.2.2 + by_))) := by show _ = _; rw [moved, if_pos hk, hk]
      have hlt2 := H012.out.2.lt
      have hs1 : (W.setCell ⟨Bx, 1, none⟩ (.int .i64 (wrap64 (x.2.2 + by_)))).heap.size = W.heap.size := by simp
      have b2' : Boxed (W.setCell ⟨Bx, 1, none⟩ (.int .i64 (wrap64 (x.2.2 + by_)))) (n0 + 1 + 1) 24 sv := (heap_setCell_other W ⟨Bx, 1, none⟩ _ _ (by show n0 + 1 + 1 ≠ Bx; omega)).trans H012.out.2
      have c2' := b2'.cell
      have z2' := b2'.frozen
      have HW1 : Hid (((Boxed (W.setCell ⟨Bx, 1, none⟩ (.int .i64 (wrap64 (x.2.2 + by_)))) n0 26 (.int .i64 kd) ∧ Boxed (W.setCell ⟨Bx, 1, none⟩ (.int .i64 (wrap64 (x.2.2 + by_)))) (n0 + 1) 3 (.int .i64 by_)) ∧ Boxed (W.setCell ⟨Bx, 1, none⟩ (.int .i64 (wrap64 (x.2.2 + by_)))) (n0 + 1 + 1) 24 sv) ∧ IsErr (W.setCell ⟨Bx, 1, none⟩ (.int .i64 (wrap64 (x.2.2 + by_)))) T0 (made kd by_ pre) sv ∧ Below n0 w (W.setCell ⟨Bx, 1, none⟩ (.int .i64 (wrap64 (x.2.2 + by_)))) ∧ Stays (fun b => b = w2.heap.size ∨ ∃ a, po = some a ∧ a.block = b) W (W.setCell ⟨Bx, 1, none⟩ (.int .i64 (wrap64 (x.2.2 + by_))))) :=
        ⟨⟨⟨(heap_setCell_other W ⟨Bx, 1, none⟩ _ _ (by show n0 ≠ Bx; omega)).trans H012.out.1.1, (heap_setCell_other W ⟨Bx, 1, none⟩ _ _ (by show n0 + 1 ≠ Bx; omega)).trans H012.out.1.2⟩, b2'⟩, HE.out.keep (keeps_setCell (p := ⟨Bx, 1, none⟩) HX.out (by decide) _), HB.out.setCell (p := ⟨Bx, 1, none⟩) (by show n0 ≤ Bx; omega) _, stays_setCell (p := ⟨Bx, 1, none⟩) (by rintro (h | ⟨a, ha, h⟩) <;> simp only at h; (· omega); (· have := hpo a ha; omega)) _⟩
      clear b2'
      have hk1 : (x.2.1 == kd) = true := by simpa using hk
      rcases hsv with rfl | ⟨t, y, rfl⟩
      all_goals
        gi_wp2
        obtain ⟨r1, r2, r3, r4⟩ := shift_step (B := W3.heap.size) (R := fun b => b = w2.heap.size ∨ ∃ a, po = some a ∧ a.block = b) (kd, wrap64 (x.2.2 + by_)) HW1.out.1 HW1.out.2.1 HW1.out.2.2.1 (by rw [hs1]; exact HRW.out)
        rw [hs1] at r1 r2 r3 r4
        have r0 := ((KeepsOthers.setCell W ⟨Bx, 1, none⟩ (.int .i64 (wrap64 (x.2.2 + by_)))).from W3.heap.size).trans r1
        exact ⟨r0, HW1.out.2.2.2.trans r2, ⟨by rw [HM.out, HMV.out]; exact r3, r4⟩, Nat.le_trans hK3 r0.size⟩
    · have hk1 : (x.2.1 == kd) = false := by simpa using hk
      have hlt2 := H012.out.2.lt
      have HMV : Hid (moved kd by_ x.2 = x.2) := by show _ = _; rw [moved, if_neg hk]
      rcases hsv with rfl | ⟨t, y, rfl⟩
      all_goals
        gi_wp2
        obtain ⟨r1, r2, r3, r4⟩ := shift_step (B := W3.heap.size) (R := fun b => b = w2.heap.size ∨ ∃ a, po = some a ∧ a.block = b) x.2 H012.out HE.out HB.out HRW.out
        exact ⟨r1, r2, ⟨by rw [HM.out, HMV.out]; exact r3, r4⟩, Nat.le_trans hK3 r1.size⟩
  case done =>
    rintro D ys W hD rfl hi hK
    exact hdone D W (by omega) hi.1 hK
  case stop =>
    rintro D c pre W _ _ h _
    exact h.elim
end Go.Proofs.YthgmhhlgjooeaaaDoor.F1
