/- What the calls on a disk share. -/
import Derived.Test.YtmknplpcpmkhiaaGreatDiTell
import Derived.Test.YtmknplpcpmkhiaaGreatDiFile
namespace Go.Proofs.YtmknplpcpmkhiaaGreat
open Go.RowKit Go.Maps
set_option linter.unusedVariables false

/-- A disk that is worked on and can be told. -/
def MntT (B : Nat) (w : World) (m : Nat) (y : S_Disk) : Prop :=
  ∃ bf bd vn pm cm fs h, fs.map (·.1) = y.f2 ∧ w.heap[m]? = some (mObj y.f0 y.f1 bf bd vn (.slice pm y.f4.length cm)) ∧ Fls B w bf fs h ∧ w.ownsMap Tryz.prog 9 (plainElem Tryz.prog 3) bd y.f3.length (encL y.f3) ∧ RowR w (.slice pm y.f4.length cm) y.f4.length 4 (rMove y.f4) ∧
    (y.f2.length ≤ 1000 ∧ y.f3.length ≤ 1000 ∧ y.f4.length ≤ 1000) ∧ (∀ z ∈ y.f3, z.f0.size ≤ 1048576) ∧ (∀ z ∈ y.f4, z.f1.size ≤ 1048576 ∧ z.f2.size ≤ 1048576)

theorem tellT_c (B m : Nat) (y : S_Disk) (w : World) (h : MntT B w m y) : Calls Tryz.prog 58 #[.pointer (some ⟨m, 0, none⟩)] w fun e w' => ∃ v2 v3 v4, e = .returned (.agg #[.int .i64 y.f0, .int .i64 y.f1, v2, v3, v4]) ∧ OwDisk w' w.heap.size y v2 v3 v4 ∧ Below w.heap.size w w' := by
  obtain ⟨bf, bd, vn, pm, cm, fs, h, hf, hm, hF, hd, hM, ⟨l2, l3, l4⟩, s3, s4⟩ := h
  refine (tell_c B m y.f0 y.f1 bf bd vn pm cm fs h y.f3 y.f4 w hm hF hd hM (by rw [← List.length_map (f := fun p : S_Inode × Nat => p.1), hf]; exact l2) l3 l4 s3 s4).mono ?_
  rintro e w' ⟨v2, v3, v4, rfl, ho, hb⟩
  rw [hf] at ho
  exact ⟨v2, v3, v4, rfl, ho, hb⟩

theorem ap_small {L : List S_Link} {m : S_Move} (h : (ap L m).2 = true) : m.f1.size ≤ 12 ∧ m.f2.size ≤ 12 := by
  have hn : ∀ s : ByteArray, nameB s = true → s.size ≤ 12 := fun s hs => by
    unfold nameB at hs
    simp at hs
    exact hs.1.2
  unfold ap at h
  split at h
  · cases h
  · rename_i h1
    have h1' := hn _ (by simpa using h1)
    split at h
    · rename_i h2; exact ⟨h1', by omega⟩
    · split at h
      · rename_i h3; exact ⟨h1', hn _ h3.2.2.2.1⟩
      · split at h
        · rename_i h4; exact ⟨h1', by omega⟩
        · cases h

theorem mnt_T {B : Nat} {w : World} {m : Nat} {x : S_Disk} {bf bd bn : Nat} {vm : Value} {bs : List Nat} (hx : okX x) (h : Mnt B w m x bf bd bn vm bs) : MntT B w m x := by
  obtain ⟨hl, hF, hd, hn, hm, hv, _⟩ := h
  obtain ⟨p, c, hvv, _, _⟩ := own_slice hv
  subst hvv
  have h1 := hx.1.2.2.1
  have h2 := okX_dir hx
  have h3 := hx.1.2.2.2
  refine ⟨bf, bd, _, p, c, x.f2.zip bs, _, ?_, hm, hF, hd, RowR.own hv, ⟨by omega, by omega, by omega⟩, fun z hz => ?_, fun z hz => ?_⟩
  · rw [List.map_fst_zip (by omega)]
  · obtain ⟨i, hi, rfl⟩ := List.getElem_of_mem hz
    have h4 := (hx.2.2.1 i hi).1
    unfold nameB at h4
    simp at h4
    have := h4.1.2
    omega
  · obtain ⟨i, hi, rfl⟩ := List.getElem_of_mem hz
    have h4 := ap_small (hx.2.2.2.1 i hi).1
    omega

/-- What a call on a disk answers: the disk 'f.1' and the code 'f.2'; of a disk that isn't right: none. -/
def OnR (x : S_Disk) (f : S_Disk × Int) (w : World) (e : Ending) (w' : World) : Prop :=
  ∃ y code v2 v3 v4, e = .returned (.tuple #[.agg #[.int .i64 y.f0, .int .i64 y.f1, v2, v3, v4], .int .i64 code]) ∧ OwDisk w' w.heap.size y v2 v3 v4 ∧ Below w.heap.size w w' ∧ ((okX x ∧ y = f.1 ∧ code = f.2) ∨ (¬ okX x ∧ y = bare 0 0 ∧ code = 1))

/-- What a closure does on the mount of a right disk. -/
def DoF (x : S_Disk) (f : S_Disk × Int) (B : Nat) (m : Nat) (w : World) (e : Ending) (w' : World) : Prop :=
  e = .returned (.int .i64 f.2) ∧ MntT B w' m f.1 ∧ Below B w w'

end Go.Proofs.YtmknplpcpmkhiaaGreat
