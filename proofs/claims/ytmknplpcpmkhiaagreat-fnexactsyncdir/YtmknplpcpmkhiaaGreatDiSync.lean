/- Sync: the program's own, by its contract. -/
import Derived.Test.YtmknplpcpmkhiaaGreatDiOn
import Derived.Test.YtmknplpcpmkhiaaGreatDiLoad
namespace Go.Proofs.YtmknplpcpmkhiaaGreat
open Go.RowKit Go.Maps
set_option linter.unusedVariables false

theorem wf_small (a : Int) (h : -9223372036854775808 ≤ a ∧ a ≤ 9223372036854775807) : (Lit.int .i64 a).wf = true := by
  simp only [Lit.wf, IntKind.min, IntKind.max, IntKind.bits, IntKind.signed]
  simp
  omega

/-- One file's bytes or mark changed. -/
theorem Fls.upd {B : Nat} {w w' : World} {bf : Nat} {fs : List (S_Inode × Nat)} {h : Int → Bool} (F : Fls B w bf fs h) (k : Nat) (hk : k < fs.length) (Y : S_Inode) (hid : Y.f0 = fs[k].1.f0) (hfr : Fr (fun i => i = fs[k].2) w w') (hb : w'.heap[fs[k].2]? = some (fObj Y (h Y.f0)))
    (hwf : (Lit.int .i64 Y.f2).wf = true ∧ Y.f1.size ≤ 1048576) : Fls B w' bf (fs.set k (Y, fs[k].2)) h := by
  have hset : ∀ {β : Type} (g : S_Inode × Nat → β), g (Y, fs[k].2) = g fs[k] → (fs.set k (Y, fs[k].2)).map g = fs.map g := fun g hg => by
    rw [List.map_set, hg]
    apply List.ext_getElem?
    intro j
    rw [List.getElem?_set]
    split
    · rename_i e
      subst e
      rw [List.length_map, if_pos hk, List.getElem?_map, List.getElem?_eq_getElem hk]
      rfl
    · rfl
  have hmem := List.getElem_mem hk
  have hidx : ∀ p ∈ fs.set k (Y, fs[k].2), p = (Y, fs[k].2) ∨ (p ∈ fs ∧ p.2 ≠ fs[k].2) := fun p hp => by
    obtain ⟨j, hj, rfl⟩ := List.getElem_of_mem hp
    have hj' : j < fs.length := by simpa using hj
    rw [List.getElem_set]
    split
    · exact .inl rfl
    · rename_i e
      refine .inr ⟨List.getElem_mem hj', fun e2 => e ?_⟩
      have h1 := List.pairwise_iff_getElem.1 F.apart
      rcases Nat.lt_trichotomy j k with h | h | h
      · exact absurd (by rw [List.getElem_map, List.getElem_map]; exact e2) (h1 j k (by simpa using hj') (by simpa using hk) h)
      · exact h.symm
      · exact absurd (by rw [List.getElem_map, List.getElem_map]; exact e2.symm) (h1 k j (by simpa using hk) (by simpa using hj') h)
  refine ⟨?_, fun p hp => ?_, ⟨F.low.1, fun p hp => ?_⟩, ?_, ?_, fun p hp => ?_⟩
  · have e : encF (fs.set k (Y, fs[k].2)) = encF fs := by
      unfold encF
      rw [hset _ (by simp only [hid])]
    rw [e, List.length_set]
    exact hfr.map F.own (fun e2 => map_ne F.own (F.blk _ hmem) e2.symm)
  · rcases hidx p hp with rfl | ⟨h1, h2⟩
    · exact hb
    · exact hfr.at (F.blk p h1) h2
  · rcases hidx p hp with rfl | ⟨h1, h2⟩
    · exact F.low.2 fs[k] hmem
    · exact F.low.2 p h1
  · rw [hset (·.2) rfl]
    exact F.apart
  · have h1 := F.ris
    have h2 : ∀ L : List (S_Inode × Nat), L.Pairwise (fun p q => p.1.f0 < q.1.f0) ↔ (L.map (·.1.f0)).Pairwise (· < ·) := fun L => by rw [List.pairwise_map]
    rw [h2, hset (·.1.f0) (by simp only [hid]), ← h2]
    exact h1
  · rcases hidx p hp with rfl | ⟨h1, h2⟩
    · exact ⟨by rw [hid]; exact (F.wf _ hmem).1, hwf⟩
    · exact F.wf p h1

theorem mnt_drew {B : Nat} {w : World} {m : Nat} {x : S_Disk} {bf bd bn : Nat} {vm : Value} {bs : List Nat} (h : Mnt B w m x bf bd bn vm bs) : Mnt B w.drew m x bf bd bn vm bs := by
  have f : Fr (fun _ => False) w w.drew := (Fr.refl _ _).drew
  obtain ⟨hl, hF, hd, hn, hm, hv, r⟩ := h
  exact ⟨hl, hF.keep f (fun h => h) (fun _ _ h => h), f.map hd (fun h => h), f.map hn (fun h => h), f.at hm (fun h => h), own_bel hv ((Below.refl w.heap.size w).drew) (Nat.le_refl _), r⟩

/-- What Sync makes of a right disk. -/
def syF (x : S_Disk) (s : ByteArray) : S_Disk × Int :=
  if nameB s = false then (x, 1) else if fnd x s < 0 then (x, 2) else (⟨x.f0, x.f1, match x.f2[(fnd x s).toNat]? with | some X => x.f2.set (fnd x s).toNat ⟨X.f0, X.f1, X.f1.size⟩ | none => x.f2, x.f3, x.f4⟩, 0)

theorem fObj_sure {w : World} {b : Nat} {x : S_Inode} {h : Bool} (hb : w.heap[b]? = some (fObj x h)) (u : Int) : (w.setCell ⟨b, 1, none⟩ (.int .i64 u)).heap[b]? = some (fObj ⟨x.f0, x.f1, u⟩ h) := by
  unfold fObj at *
  simp [World.setCell, Array.getElem?_modify, hb]

theorem one_cell {w : World} {b : Nat} {a : Value} {t : TypeId} (h : w.heap[b]? = some (.cells #[a] t)) : w.cell? ⟨b, 0, none⟩ = some a := by
  simp [World.cell?, h]

end Go.Proofs.YtmknplpcpmkhiaaGreat
