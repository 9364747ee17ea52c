/- bad at hierarchies at the limits. (genhy.py) -/
import Derived.Test.YtlhblkahnenjcaaDoorHfA
namespace Go.Proofs.YtlhblkahnenjcaaDoor.Hi
open Go.RowKit Go.Extern Go.Shelf

theorem pl_nil9 (w : World) : HasPlaces w (.slice none 0 0) [] := ⟨none, 0, rfl, fun j p hj => by simp at hj⟩
/-- bad at a hierarchy whose lists are made, by their lengths. -/
theorem bad_made {E : Int × List (Int × Int)} (hE2 : E.2 = []) (no ul dl : Option Addr) (N L D : Nat) (h : Hr) (hh : h = ⟨List.replicate N 0, [], List.replicate L zl, [], List.replicate D zl⟩) (hc : chk h = E) (hN : N ≤ 1048577) (hL : L ≤ 1048577) (hD : D ≤ 1048577) (wx : World) (hty : HasType wx)
    (h1 : HasWs wx (.slice no N N) (List.replicate N 0)) (h2 : HasLs wx (.slice ul L L) (List.replicate L zl)) (h3 : HasLs wx (.slice dl D D) (List.replicate D zl)) :
    Calls Tryd.prog 7 #[.agg #[.int .i64 E.1, .slice none 0 0], .agg #[.slice no N N, .slice none 0 0, .slice ul L L, .slice none 0 0, .slice dl D D]] wx fun e w' => e = .returned (.bool true) ∧ Below wx.heap.size wx w' := by
  have e1 : h.node.length = N := by rw [hh]; exact List.length_replicate ..
  have e2 : h.up.length = L := by rw [hh]; exact List.length_replicate ..
  have e3 : h.dn.length = D := by rw [hh]; exact List.length_replicate ..
  have e4 : h.upF.length = 0 := by rw [hh]; rfl
  have e5 : h.dnF.length = 0 := by rw [hh]; rfl
  have hH : HasH wx ⟨no, none, ul, none, dl, N, 0, L, 0, D⟩ h := by
    refine ⟨?_, ?_, ?_, ?_, ?_⟩
    · show HasWs wx (.slice no h.node.length N) h.node
      rw [e1, hh]; exact h1
    · show HasWs wx (.slice none h.upF.length 0) h.upF
      rw [e4, hh]; exact ws_nil _
    · show HasLs wx (.slice ul h.up.length L) h.up
      rw [e2, hh]; exact h2
    · show HasWs wx (.slice none h.dnF.length 0) h.dnF
      rw [e5, hh]; exact ws_nil _
    · show HasLs wx (.slice dl h.dn.length D) h.dn
      rw [e3, hh]; exact h3
  have g := bad_calls10 E none 0 ⟨no, none, ul, none, dl, N, 0, L, 0, D⟩ h wx hty hH hc (by rw [hE2]; exact pl_nil9 _) (by rw [hE2]; exact Nat.zero_le _) (by omega) (by omega) (by omega)
  unfold hvl at g
  rw [hE2, e1, e2, e3, e4, e5] at g
  exact g
theorem badN (wx : World) (b : Nat) (hty : HasType wx) (hr : wx.heap[b]? = some (.cells (madeCells #[.int .u32 0] 65537) 34)) : Calls Tryd.prog 7 #[.agg #[.int .i64 9, .slice none 0 0], .agg #[.slice (some ⟨b, 0, none⟩) 65537 65537, .slice none 0 0, .slice none 0 0, .slice none 0 0, .slice none 0 0]] wx fun e w' => e = .returned (.bool true) ∧ Below wx.heap.size wx w' :=
  bad_made (E := (9, [])) rfl (some ⟨b, 0, none⟩) none none 65537 0 0 bigN rfl chkBigN (by decide) (by decide) (by decide) wx hty (ws_made hr) (ls_nil _) (ls_nil _)
theorem badL (wx : World) (b c : Nat) (hty : HasType wx) (hr : wx.heap[b]? = some (.cells (madeCells #[.int .u32 0, .int .u64 0, .int .u32 0, .int .u32 0] (524288 * 4)) 36)) (hr2 : wx.heap[c]? = some (.cells (madeCells #[.int .u32 0, .int .u64 0, .int .u32 0, .int .u32 0] (524289 * 4)) 36)) : Calls Tryd.prog 7 #[.agg #[.int .i64 9, .slice none 0 0], .agg #[.slice none 0 0, .slice none 0 0, .slice (some ⟨b, 0, none⟩) 524288 524288, .slice none 0 0, .slice (some ⟨c, 0, none⟩) 524289 524289]] wx fun e w' => e = .returned (.bool true) ∧ Below wx.heap.size wx w' :=
  bad_made (E := (9, [])) rfl none (some ⟨b, 0, none⟩) (some ⟨c, 0, none⟩) 0 524288 524289 bigL rfl chkBigL (by decide) (by decide) (by decide) wx hty (ws_nil _) (ls_made hr) (ls_made hr2)
theorem badS (wx : World) (b c : Nat) (hty : HasType wx) (hr : wx.heap[b]? = some (.cells (madeCells #[.int .u32 0, .int .u64 0, .int .u32 0, .int .u32 0] (524288 * 4)) 36)) (hr2 : wx.heap[c]? = some (.cells (madeCells #[.int .u32 0, .int .u64 0, .int .u32 0, .int .u32 0] (524288 * 4)) 36)) : Calls Tryd.prog 7 #[.agg #[.int .i64 14, .slice none 0 0], .agg #[.slice none 0 0, .slice none 0 0, .slice (some ⟨b, 0, none⟩) 524288 524288, .slice none 0 0, .slice (some ⟨c, 0, none⟩) 524288 524288]] wx fun e w' => e = .returned (.bool true) ∧ Below wx.heap.size wx w' :=
  bad_made (E := (14, [])) rfl none (some ⟨b, 0, none⟩) (some ⟨c, 0, none⟩) 0 524288 524288 bigS rfl chkBigS (by decide) (by decide) (by decide) wx hty (ws_nil _) (ls_made hr) (ls_made hr2)
end Go.Proofs.YtlhblkahnenjcaaDoor.Hi
