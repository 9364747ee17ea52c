/- errors.Is at a number over a chain of faults that ends in a number or in nothing. -/
import Derived.Test.YtcfpkbmeblfhoaaGreatDoorErrD
namespace Go.Proofs.YtcfpkbmeblfhoaaGreatDoor
open Go.RowKit Go.Extern

theorem run_equalIn_iface_int {P : Program} (w : World) (d : Nat) {ti tn : TypeId} {ms : Array (String × TypeId)} {i : TypeInfo} {k : IntKind} (a b : Int)
    (hi : P.underlying ti = some (.interface ms)) (hn : P.underlying tn = some (.int k)) (hinfo : P.info? tn = some i) (hcomp : i.comparable = true) :
    (Op.equalIn (d + 2) ti (.iface tn (.int k a)) (.iface tn (.int k b))).run P w = .ok (a == b) w := by
  simp [Op.equalIn, run_underlying hi, run_underlying hn, typeInfo, hinfo, hcomp]
theorem run_eql_iface_int {P : Program} (w : World) {ti tn : TypeId} {ms : Array (String × TypeId)} {i : TypeInfo} {k : IntKind} (a b : Int)
    (hi : P.underlying ti = some (.interface ms)) (hn : P.underlying tn = some (.int k)) (hinfo : P.info? tn = some i) (hcomp : i.comparable = true) :
    (binOp .eql ti (.iface tn (.int k a)) (.iface tn (.int k b))).run P w = .ok (.bool (a == b)) w := by
  simp only [binOp]
  simp [Op.equal, Op.maxDepth, run_equalIn_iface_int w 9998 a b hi hn hinfo hcomp]
theorem Tryz.eq2424 (a b : Int) (w : World) : (binOp .eql 38 (.iface 60 (.int .i64 a)) (.iface 60 (.int .i64 b))).run Tryz.prog w = .ok (.bool (a == b)) w := by
  obtain ⟨i, hi, hc⟩ : ∃ i, Tryz.prog.info? 60 = some i ∧ i.comparable = true := by
    have h : (Tryz.prog.info? 60).any (·.comparable) = true := by kernel_rfl
    cases hi : Tryz.prog.info? 60 with
    | none => rw [hi] at h; cases h
    | some i => rw [hi] at h; exact ⟨i, rfl, h⟩
  exact run_eql_iface_int w a b Tryz.underlying38 Tryz.underlying60 hi hc
theorem Tryz.eq3024 (a b : Value) (w : World) : (binOp .eql 38 (.iface 86 a) (.iface 60 b)).run Tryz.prog w = .ok (.bool false) w := run_eql_iface_types 86 60 a b Tryz.underlying38 (by decide) w

set_option maxHeartbeats 4000000 in
/-- the inner errors.is, over a chain that ends in a number. -/
theorem is_num (ps : List (Int × Int)) (n m : Int) (v : Value) (w : World) (hv : IsErr w (.iface 60 (.int .i64 n)) ps v) :
    Calls Tryz.prog 61 #[v, .iface 60 (.int .i64 m), .bool true] w fun ev w' => ev = .returned (.bool (n == m)) ∧ w' = w := by
  have q1 := Tryz.eq2424
  have q2 := Tryz.eq3024
  have g0 := Tryz.noIs24
  have g1 := Tryz.noIs30
  have g2 := Tryz.un30
  have g3 := Tryz.methodUnwrap
  have g4 := Tryz.noUn24
  have g5 := Tryz.noUns24
  go_enter Tryz.func61, Tryz.ntmps61
  go_wp2
  go_loop [0] (fun u => ∃ qs : List (Int × Int), qs.length ≤ ps.length ∧ IsErr w (.iface 60 (.int .i64 n)) qs u) (fun u => depthOf w ps.length u)
  case atStart => exact ⟨ps, Nat.le_refl _, hv⟩
  case round =>
    obtain ⟨qs, hl, hq⟩ := hrel
    have hd := depth_isErr (fun m => depth24 w m _) ps.length hq hl
    cases qs with
    | nil =>
      obtain rfl := hq
      clear hd
      cases hnm : (n == m)
      · go_wp2
        go_ret
        exact ⟨rfl, rfl⟩
      · go_wp2
        go_ret
        exact ⟨rfl, rfl⟩
    | cons q qs =>
      obtain ⟨b, u', rfl, hb, hr⟩ := hq
      have hc : w.cell? ⟨b, 2, none⟩ = some u' := (cell_of_fault hb).2.2
      have hd' := depth_isErr (fun m => depth24 w m _) ps.length hr (by simp at hl; omega)
      have HD : Hid (depthOf w ps.length u' < depthOf w ps.length (.iface 86 (.pointer (some ⟨b, 0, none⟩)))) := by show _ < _; rw [hd, hd']; simp
      clear hd hd'
      have HR : Hid (IsErr w (.iface 60 (.int .i64 n)) qs u') := hr
      obtain ⟨T, x, rfl⟩ : ∃ T x, u' = .iface T x := by
        cases qs with
        | nil => exact ⟨60, _, hr⟩
        | cons p' qs' => obtain ⟨_, _, e, _⟩ := hr; exact ⟨_, _, e⟩
      clear hr
      go_wp2_with (go_at_call 153; refine (unwrap_fault b _ _ hc).mono ?_; rintro e w' ⟨rfl, rfl⟩)
      go_round
      case rel => exact ⟨qs, by simp at hl; omega, HR.out⟩
      case measure => exact HD.out

theorem Tryz.c96 (w : World) : (callFunc 164 #[.agg #[.pointer (some ⟨1, 60, none⟩)]]).run Tryz.prog w = .ok (.value (.bool true)) w := by
  rw [x96, Tryz.comparable24]; rfl

set_option maxHeartbeats 4000000 in
/-- errors.Is at a number, of an error that is there, by the inner call. -/
theorem is_outer (v x : Value) (T : Nat) (m : Int) (w : World) (b : Bool) (hv : v = .iface T x)
    (hin : Calls Tryz.prog 61 #[v, .iface 60 (.int .i64 m), .bool true] w fun ev w' => ev = .returned (.bool b) ∧ w' = w) :
    Calls Tryz.prog 35 #[v, .iface 60 (.int .i64 m)] w fun ev w' => ev = .returned (.bool b) ∧ w' = w := by
  subst hv
  have h33 := x33
  have f1 := Tryz.typeOf24
  have f2 := Tryz.methodComparable
  have f3 := Tryz.c96
  have HIN : Hid (Calls Tryz.prog 61 #[.iface T x, .iface 60 (.int .i64 m), .bool true] w fun ev w' => ev = .returned (.bool b) ∧ w' = w) := hin
  clear hin
  go_enter Tryz.func35, Tryz.ntmps35
  go_wp2_with (go_at_call 61; refine HIN.out.mono ?_; rintro e w' ⟨rfl, rfl⟩)
  go_ret
  exact ⟨rfl, rfl⟩

/-- errors.Is at a number, over a chain that ends in a number. -/
theorem errorsIs_num (ps : List (Int × Int)) (n m : Int) (v : Value) (w : World) (hv : IsErr w (.iface 60 (.int .i64 n)) ps v) :
    Calls Tryz.prog 35 #[v, .iface 60 (.int .i64 m)] w fun ev w' => ev = .returned (.bool (n == m)) ∧ w' = w := by
  have h := is_num ps n m v w hv
  cases ps with
  | nil => exact is_outer v _ 60 m w _ hv h
  | cons p ps => obtain ⟨b, u, e, _⟩ := hv; exact is_outer v _ 86 m w _ e h
end Go.Proofs.YtcfpkbmeblfhoaaGreatDoor
