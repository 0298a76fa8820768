/- The specification's functions that build links, by contracts. -/
import Derived.Test.YtoecakjjondeeaaGreatDkSpec2
import Derived.OwnWalk
namespace Go.Proofs.YtoecakjjondeeaaGreat
open Go.RowKit
set_option linter.unusedVariables false

theorem cell_new2 (w : World) (a b : Value) (t : TypeId) : ∀ j u, [a, b][j]? = some u → (w.alloc (.cells #[a, b] t)).cell? ((⟨w.heap.size, 0, none⟩ : Addr).add j) = some u := fun j u h => by
  rw [Addr.add_mid, Nat.zero_add, box_cell]
  simpa using h

theorem r_snoc (L : List S_Link) (y : S_Link) : rLink (L ++ [y]) = rLink L ++ [.string y.f0, .int .i64 y.f1] := by
  unfold rLink
  rw [List.flatMap_append, List.flatMap_singleton]; rfl

/-- Behind one append of an element of the call's own. -/
theorem link_snoc {w : World} {base : Nat} {v : Value} {acc : List S_Link} {y : S_Link} (h : w.ownsRow base 114 2 v (acc.length + 1) (rLink acc ++ [.string y.f0, .int .i64 y.f1])) : w.ownsRow base 114 2 v (acc ++ [y]).length (rLink (acc ++ [y])) := by
  rw [r_snoc, List.length_append, List.length_singleton]; exact h

/-- The links without a name. -/
def wo (nm : ByteArray) (L : List S_Link) : List S_Link := L.filter fun x => !decide (x.f0 = nm)

set_option maxRecDepth 20000 in
set_option maxHeartbeats 1000000 in
theorem without_c (v : Value) (L : List S_Link) (nm : ByteArray) (w : World) (hn : L.length ≤ 1048576) (hr : RowR w v L.length 2 (rLink L)) :
    Calls Tryz.prog 127 #[v, .string nm] w fun e w' => ∃ v', e = .returned v' ∧ w'.ownsRow w.heap.size 114 2 v' (wo nm L).length (rLink (wo nm L)) ∧ Below w.heap.size w w' := by
  obtain ⟨i0, hi, hz0, hz1, hz2⟩ := info_parts infoLink
  have hn' : (L.length : Int) ≤ 1048576 := by omega
  obtain ⟨p, cap, hv⟩ : ∃ p cap, v = .slice p L.length cap := by obtain ⟨_, p, cap, hv, _⟩ := hr; exact ⟨p, cap, hv⟩
  subst hv
  have HR : Hid (RowR w (.slice p L.length cap) L.length 2 (rLink L)) := hr
  clear hr
  go_enter Tryz.func127, Tryz.ntmps127
  go_wp2
  go_loopw [5, 6] (fun v' i wr => ∃ k : Nat, k ≤ L.length ∧ i = .int .i64 (k : Int) ∧ Hid (wr.ownsRow w.heap.size 114 2 v' (wo nm (L.take k)).length (rLink (wo nm (L.take k)))) ∧ Hid (Below w.heap.size w wr)) (fun _ i _ => L.length - (intOf i).toNat)
  case atStart => exact ⟨0, Nat.zero_le _, rfl, World.ownsRow_made w _ 0 (Nat.le_refl _) (by decide) (by simp), (Below.refl _ _).alloc (Nat.le_refl _) _⟩
  case round =>
    obtain ⟨k, hk, rfl, HO, HB⟩ := hrel
    have hsz := HB.out.size
    by_cases hlt : k < L.length
    · have hlt' : (k : Int) < L.length := by omega
      obtain ⟨b, off, cap', hv, hb, hc⟩ := link_cells HR.out (by omega)
      simp only [Value.slice.injEq, true_and] at hv
      obtain ⟨rfl, rfl⟩ := hv
      have c0 : wr.cell? ⟨b, off + k * 2, none⟩ = some (.string L[k].f0) := by rw [HB.out.cell (by exact hb)]; exact (hc k hlt).1
      have c1 : wr.cell? ⟨b, off + k * 2 + 1, none⟩ = some (.int .i64 L[k].f1) := by rw [HB.out.cell (by exact hb)]; exact (hc k hlt).2
      have HT : Hid (wo nm (L.take (k + 1)) = wo nm (L.take k) ++ (if !decide (L[k].f0 = nm) then [L[k]] else [])) := filter_take _ L k hlt
      have hlen : (wo nm (L.take k)).length ≤ k := Nat.le_trans (List.length_filter_le _ _) (by rw [List.length_take]; omega)
      clear hc
      generalize L[k] = X at c0 c1 HT
      by_cases he : X.f0 = nm
      · have HT2 : Hid (wo nm (L.take (k + 1)) = wo nm (L.take k)) := by have := HT.out; simp [he] at this; exact this
        rw [he] at c0
        have HO2 : Hid (wr.ownsRow w.heap.size 114 2 u5 (wo nm (L.take (k + 1))).length (rLink (wo nm (L.take (k + 1))))) := by show World.ownsRow _ _ _ _ _ _ _; rw [HT2.out]; exact HO.out
        clear HO HT HT2 he c1
        go_wp2
        go_roundw
        case rel => exact ⟨k + 1, by omega, by go_num, HO2, HB⟩
        case measure => simp [intOf]; omega
      · have HT2 : Hid (wo nm (L.take (k + 1)) = wo nm (L.take k) ++ [X]) := by have := HT.out; simp [he] at this; exact this
        have hq : ((X.f0).toList == nm.toList) = false := by rw [beq_txt]; simp [he]
        clear HT he
        generalize wo nm (L.take k) = acc at HO HT2 hlen
        have hown := HO.out
        clear HO
        go_wp2_with (at_builtin; refine wpList_append_own _ rfl _ _ 32 rfl w.heap.size 114 i0 (.agg #[.string ⟨#[]⟩, .int .i64 0]) 2 24 Tryz.underlying32 hi hz0 hz1 hz2 rfl (by decide) _ _ _ rfl (hown.alloc _) ⟨wr.heap.size, 0, none⟩ 1 1 [.string X.f0, .int .i64 X.f1] rfl rfl (cell_new2 _ _ _ _) (by intro u hu; simp at hu; rcases hu with rfl | rfl <;> rfl) (by unfold maxLen; omega) (by omega) (by simp; omega) ?_)
        intro v' w2 hown2 hgrow _
        have R1 : Hid (w2.ownsRow w.heap.size 114 2 v' (wo nm (L.take (k + 1))).length (rLink (wo nm (L.take (k + 1))))) := by
          show World.ownsRow _ _ _ _ _ _ _
          rw [HT2.out]
          exact link_snoc hown2
        have R2 : Hid (Below w.heap.size w w2) := below_append HB.out (Nat.le_refl _) hown hgrow
        clear hown2 hgrow hown HB HT2
        go_wp2
        go_roundw
        case rel => first | exact ⟨k + 1, by omega, by go_num, R1, R2⟩ | ((repeat apply Exists.intro); exact ⟨⟨k + 1, by omega, by go_num, R1, R2⟩, rfl⟩)
        case measure => simp [intOf]; omega
    · have hke : k = L.length := by omega
      subst hke
      have HF : Hid (wr.ownsRow w.heap.size 114 2 u5 (wo nm L).length (rLink (wo nm L))) := by have := HO.out; rw [List.take_length] at this; exact this
      go_wp2
      go_ret
      exact ⟨_, rfl, HF.out, HB.out⟩

set_option maxRecDepth 20000 in
set_option maxHeartbeats 1000000 in
theorem bytes_c (x : S_Disk) (v2 v3 v4 : Value) (w : World) (hn : LnDisk x 1048576) (hz : zsum zInode x.f2 x.f2.length ≤ 1099511627776) (hr : RdDisk w x v2 v3 v4) :
    Calls Tryz.prog 72 #[.agg #[.int .i64 x.f0, .int .i64 x.f1, v2, v3, v4]] w fun e w' => e = .returned (.int .i64 (zsum zInode x.f2 x.f2.length : Int)) ∧ Below w.heap.size w w' := by
  have hn' : (x.f2.length : Int) ≤ 1048576 := by have := hn.1; omega
  obtain ⟨p, cap, hv⟩ : ∃ p cap, v2 = .slice p x.f2.length cap := by obtain ⟨_, p, cap, hv, _⟩ := hr.1; exact ⟨p, cap, hv⟩
  subst hv
  have b0 : Below w.heap.size w (w.alloc (.cells #[.int .i64 x.f0, .int .i64 x.f1, .slice p x.f2.length cap, v3, v4] 35)) := (Below.refl _ _).alloc (Nat.le_refl _) _
  have HB : Hid (Below w.heap.size w (w.alloc (.cells #[.int .i64 x.f0, .int .i64 x.f1, .slice p x.f2.length cap, v3, v4] 35))) := b0
  have HR : Hid (RowR w (.slice p x.f2.length cap) x.f2.length 3 (rInode x.f2)) := hr.1
  clear hr hn b0
  go_enter Tryz.func72, Tryz.ntmps72
  go_wp2
  go_loop [3, 4] (fun m i => ∃ k : Nat, k ≤ x.f2.length ∧ i = .int .i64 (k : Int) ∧ m = .int .i64 (zsum zInode x.f2 k : Int)) (fun _ i => x.f2.length - (intOf i).toNat)
  case atStart => exact ⟨0, Nat.zero_le _, rfl, rfl⟩
  case round =>
    obtain ⟨k, hk, rfl, rfl⟩ := hrel
    have hzk := zsum_le zInode x.f2 k hk
    by_cases hlt : k < x.f2.length
    · have hlt' : (k : Int) < x.f2.length := by omega
      obtain ⟨b, off, cap', hv, hb, hc⟩ := inode_cells HR.out (by omega)
      simp only [Value.slice.injEq, true_and] at hv
      obtain ⟨rfl, rfl⟩ := hv
      obtain ⟨_, c1', _⟩ := hc k hlt
      have c1 : (w.alloc (.cells #[.int .i64 x.f0, .int .i64 x.f1, .slice (some ⟨b, off, none⟩) x.f2.length cap, v3, v4] 35)).cell? ⟨b, off + k * 3 + 1, none⟩ = some (.string x.f2[k].f1) := by rw [HB.out.cell (by exact hb)]; exact c1'
      have HS : Hid (zsum zInode x.f2 (k + 1) = zsum zInode x.f2 k + zInode x.f2[k]) := zsum_succ zInode x.f2 k hlt
      have HS2 : Hid (((zsum zInode x.f2 (k + 1) : Nat) : Int) = (zsum zInode x.f2 k : Int) + (x.f2[k].f1.size : Int)) := by
        have h1 := HS.out
        have ez : zInode x.f2[k] = x.f2[k].f1.size := rfl
        show _ = _
        omega
      have hsum : (zsum zInode x.f2 k : Int) + (x.f2[k].f1.size : Int) ≤ 1099511627776 := by
        have h2 := HS2.out
        have h3 := zsum_le zInode x.f2 (k + 1) hlt
        omega
      clear hc c1' HS
      generalize x.f2[k].f1 = Y at c1 HS2 hsum
      have hz0 : (0 : Int) ≤ (zsum zInode x.f2 k : Int) := by omega
      clear hzk hz
      generalize (zsum zInode x.f2 k : Int) = Z at HS2 hsum hz0 ⊢
      go_wp2
      go_round
      case rel => exact ⟨k + 1, by omega, by go_num, by rw [HS2.out]⟩
      case measure => simp [intOf]; omega
    · have hke : k = x.f2.length := by omega
      subst hke
      go_wp2
      go_ret
      exact ⟨rfl, HB.out⟩

end Go.Proofs.YtoecakjjondeeaaGreat
