/- Each name that is there now is an inode's: so both ways to ask for a name agree. -/
import Derived.Test.YtpgicnjhncaaeaaGreatDiLoad
namespace Go.Proofs.YtpgicnjhncaaeaaGreat
open Go.RowKit Go.Maps
set_option linter.unusedVariables false

theorem mem_insF (x y : S_Link) : ∀ L : List S_Link, y ∈ insF x L → y = x ∨ y ∈ L
  | [], h => by simp [insF] at h; exact .inl h
  | z :: zs, h => by
    unfold insF at h
    split at h
    · rcases List.mem_cons.1 h with h | h
      · exact .inl h
      · exact .inr h
    · rcases List.mem_cons.1 h with h | h
      · exact .inr (h ▸ List.mem_cons_self)
      · rcases mem_insF x y zs h with h | h
        · exact .inl h
        · exact .inr (List.mem_cons_of_mem _ h)

theorem mem_wo {y : S_Link} {nm : ByteArray} {L : List S_Link} (h : y ∈ wo nm L) : y ∈ L := (List.mem_filter.1 h).1

theorem mem_wi {x y : S_Link} {L : List S_Link} (h : y ∈ wi x L) : y = x ∨ y ∈ L := by
  unfold wi at h
  rcases mem_insF _ _ _ h with h | h
  · exact .inl h
  · exact .inr (mem_wo h)

theorem at4_mem {L : List S_Link} {s : ByteArray} (h : ¬ at4 L s < 0) : ∃ y ∈ L, (L[(at4 L s).toNat]?.map (·.f1)).getD 0 = y.f1 := by
  have h1 := (idx_range (fun x : S_Link => decide (x.f0 = s)) L).2
  have h2 : (at4 L s).toNat < L.length := by unfold at4 at h ⊢; omega
  exact ⟨L[(at4 L s).toNat], List.getElem_mem h2, by rw [List.getElem?_eq_getElem h2]; rfl⟩

theorem ids_in (fs : List (S_Inode × Nat)) (D : List S_Link) (M : List S_Move) (hD : okD fs D) (hM : okM fs D M) : ∀ k, k ≤ M.length → ∀ y ∈ nms D (M.take k), hasF fs y.f1 = true
  | 0, _, y, hy => by
    rw [List.take_zero] at hy
    obtain ⟨i, hi, rfl⟩ := List.getElem_of_mem (show y ∈ D from hy)
    exact (hD i hi).2.2.1
  | k + 1, hk, y, hy => by
    have hkl : k < M.length := by omega
    have ih := ids_in fs D M hD hM k (by omega)
    have hm := hM k hkl
    rw [nms_take D M k hkl] at hy
    unfold ap at hy
    split at hy
    · exact ih y hy
    split at hy
    · rename_i h1
      rcases mem_wi hy with h | h
      · rw [h]; exact (hm.2 h1.1).1
      · exact ih y h
    split at hy
    · rename_i h1
      rcases mem_wi hy with h | h
      · obtain ⟨z, hz, he⟩ := at4_mem h1.2.2.1
        rw [h]
        show hasF fs _ = true
        rw [he]
        exact ih z hz
      · exact ih y (mem_wo h)
    split at hy
    · exact ih y (mem_wo hy)
    · exact ih y hy

theorem fnd_at {x : S_Disk} (hx : okX x) (s : ByteArray) : fnd x s < 0 ↔ at4 (nms x.f3 x.f4) s < 0 := by
  constructor
  · intro h
    refine Decidable.byContradiction fun hn => ?_
    obtain ⟨z, hz, he⟩ := at4_mem hn
    have hi := ids_in (fs0 x.f2) x.f3 x.f4 hx.2.2.1 hx.2.2.2.1 x.f4.length (Nat.le_refl _) z (by rw [List.take_length]; exact hz)
    have hid : idOf (nms x.f3 x.f4) s = z.f1 := by unfold idOf; rw [if_neg hn, he]
    have ha : x.f2.any (fun y : S_Inode => decide (y.f0 = z.f1)) = true := by
      unfold hasF fs0 at hi
      rw [List.any_map] at hi
      exact hi
    rw [idx_any] at ha
    have : ¬ idx (fun y : S_Inode => decide (y.f0 = z.f1)) x.f2 < 0 := by simpa using ha
    rw [fnd_id hx, hid] at h
    exact this h
  · intro h
    unfold fnd
    rw [if_pos h]
    decide

end Go.Proofs.YtpgicnjhncaaeaaGreat
