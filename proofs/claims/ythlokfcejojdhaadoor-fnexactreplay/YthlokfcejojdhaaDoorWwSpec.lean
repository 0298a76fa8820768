/- WalOk of the specification. -/
import Derived.Test.YthlokfcejojdhaaDoorWrOf
import Derived.Test.YthlokfcejojdhaaDoorHaWal2
namespace Go.Proofs.YthlokfcejojdhaaDoor
open Go.RowKit
set_option linter.unusedVariables false

/-- Entries whose terms do not fall. -/
def okE (top : Int) : Int → List S_Entry → Prop
  | _, [] => True
  | last, e :: L => 1 ≤ e.f0 ∧ last ≤ e.f0 ∧ e.f0 ≤ top ∧ e.f1.size ≤ 900 ∧ okE top e.f0 L

instance okEd (top : Int) : (last : Int) → (L : List S_Entry) → Decidable (okE top last L)
  | _, [] => isTrue trivial
  | last, e :: L => by
    haveI := okEd top e.f0 L
    unfold okE; infer_instance

def headW (x : S_Wal) : Prop := (0 ≤ x.f0 ∧ x.f0 ≤ 100000) ∧ (-1 ≤ x.f1 ∧ x.f1 ≤ 4) ∧ bsR x.f2 x.f3 ∧ x.f3 ≤ x.f0 ∧ x.f4.length ≤ 60 ∧ x.f2 + x.f4.length ≤ 100000

/-- A Wal that is right. -/
def okW (x : S_Wal) : Prop := headW x ∧ okE x.f0 x.f3 x.f4

instance (x : S_Wal) : Decidable (headW x) := by unfold headW; infer_instance

instance (x : S_Wal) : Decidable (okW x) := by unfold okW; infer_instance

/-- The term of the entry ahead of number k. -/
def lastE (b : Int) (L : List S_Entry) (k : Nat) : Int := match k with
  | 0 => b
  | k + 1 => match L[k]? with
    | some e => e.f0
    | none => b

theorem lastE_succ (b : Int) (L : List S_Entry) (k : Nat) (h : k < L.length) : lastE b L (k + 1) = L[k].f0 := by
  simp [lastE, h]

/-- What is asked of the entry k behind those ahead of it. -/
def goodE (top last : Int) (e : S_Entry) : Prop := 1 ≤ e.f0 ∧ last ≤ e.f0 ∧ e.f0 ≤ top ∧ e.f1.size ≤ 900

theorem okE_drop (top b : Int) (L : List S_Entry) (k : Nat) (h : k < L.length) : okE top (lastE b L k) (L.drop k) ↔ goodE top (lastE b L k) L[k] ∧ okE top (lastE b L (k + 1)) (L.drop (k + 1)) := by
  rw [List.drop_eq_getElem_cons h, lastE_succ b L k h]
  show (1 ≤ L[k].f0 ∧ _) ↔ _
  unfold goodE
  simp only [and_assoc]

set_option maxRecDepth 20000 in
set_option maxHeartbeats 4000000 in
theorem specWalOk_c (x : S_Wal) (p : Option Addr) (cap : Nat) (w : World) (hn : x.f4.length ≤ 1048576) (hs : ∀ y ∈ x.f4, sEntry y) (hr : RowR w (.slice p x.f4.length cap) x.f4.length 2 (rEntry x.f4)) :
    Calls Tryd.prog 8 #[.agg #[.int .i64 x.f0, .int .i64 x.f1, .int .i64 x.f2, .int .i64 x.f3, .slice p x.f4.length cap]] w fun e w' => e = .returned (.bool (decide (okW x))) ∧ Below w.heap.size w w' := by
  have HB0 : Hid (Below w.heap.size w (w.alloc (.cells #[.int .i64 x.f0, .int .i64 x.f1, .int .i64 x.f2, .int .i64 x.f3, .slice p x.f4.length cap] 26))) := (Below.refl _ _).alloc (Nat.le_refl _) _
  have HS : Hid (∀ y ∈ x.f4, sEntry y) := hs
  have HR : Hid (RowR w (.slice p x.f4.length cap) x.f4.length 2 (rEntry x.f4)) := hr
  have hn' : (x.f4.length : Int) ≤ 1048576 := by omega
  clear hs hr
  by_cases h0 : 0 ≤ x.f0 ∧ x.f0 ≤ 100000
  · skip
    by_cases h1 : -1 ≤ x.f1 ∧ x.f1 ≤ 4
    · skip
      by_cases h2 : bsR x.f2 x.f3
      · skip
        by_cases h3 : x.f3 ≤ x.f0
        · skip
          by_cases h4 : x.f4.length ≤ 60
          · skip
            by_cases h5 : x.f2 + x.f4.length ≤ 100000
            · skip
              have n3 : ¬ x.f0 < x.f3 := by omega
              have n4 : ¬ (60 : Int) < (x.f4.length : Int) := by omega
              have b2 : 0 ≤ x.f2 ∧ x.f2 ≤ 100000 := by unfold bsR at h2; omega
              have n5 : ¬ (100000 : Int) < x.f2 + (x.f4.length : Int) := by omega
              have e5 : IntKind.i64.wrap (x.f2 + (x.f4.length : Int)) = x.f2 + (x.f4.length : Int) := IntWalk.i64_in _ (by omega)
              go_enter Tryd.func8, Tryd.ntmps8
              go_wp2_with fail
              refine (sin_yes x.f0 0 100000 _ h0.1 h0.2).mono ?_
              rintro e _ ⟨rfl, rfl⟩
              go_wp2_with fail
              refine (sin_yes x.f1 (-1) 4 _ h1.1 h1.2).mono ?_
              rintro e _ ⟨rfl, rfl⟩
              go_wp2_with fail
              refine (based_c x.f2 x.f3 _).mono ?_
              rintro e _ ⟨rfl, rfl⟩
              rw [decide_eq_true h2]
              have HX : Hid (∀ W', Below (w.alloc (.cells #[.int .i64 x.f0, .int .i64 x.f1, .int .i64 x.f2, .int .i64 x.f3, .slice p x.f4.length cap] 26)).heap.size (w.alloc (.cells #[.int .i64 x.f0, .int .i64 x.f1, .int .i64 x.f2, .int .i64 x.f3, .slice p x.f4.length cap] 26)) W' → W'.cell? ⟨w.heap.size, 0, none⟩ = some (.int .i64 x.f0) ∧ W'.cell? ⟨w.heap.size, 1, none⟩ = some (.int .i64 x.f1) ∧ W'.cell? ⟨w.heap.size, 2, none⟩ = some (.int .i64 x.f2) ∧ W'.cell? ⟨w.heap.size, 3, none⟩ = some (.int .i64 x.f3) ∧ W'.cell? ⟨w.heap.size, 4, none⟩ = some (.slice p x.f4.length cap)) := fun W' hW => by
                have hk : W'.heap[w.heap.size]? = some (.cells #[.int .i64 x.f0, .int .i64 x.f1, .int .i64 x.f2, .int .i64 x.f3, .slice p x.f4.length cap] 26) := by rw [hW.block _ (by simp)]; exact alloc_last _ _
                exact box5 hk
              have HOK : Hid (okW x ↔ okE x.f0 (lastE x.f3 x.f4 0) (x.f4.drop 0)) := ⟨fun h => h.2, fun h => ⟨⟨h0, h1, h2, h3, h4, h5⟩, h⟩⟩
              have HZ0 : Hid ((w.alloc (.cells #[.int .i64 x.f0, .int .i64 x.f1, .int .i64 x.f2, .int .i64 x.f3, .slice p x.f4.length cap] 26)).heap.size = w.heap.size + 1) := by show _ = _; simp
              clear h0 h1 h2 h3 h4 h5
              obtain ⟨WW, hWW⟩ : ∃ W, W = (w.alloc (.cells #[.int .i64 x.f0, .int .i64 x.f1, .int .i64 x.f2, .int .i64 x.f3, .slice p x.f4.length cap] 26)) := ⟨_, rfl⟩
              rw [← hWW] at HX HZ0
              have HBW : Hid (Below w.heap.size w WW) := by rw [hWW]; exact HB0.out
              obtain ⟨d0, d1, d2, d3, d4⟩ := HX.out WW (Below.refl _ _)
              rw [← hWW]
              clear hWW
              go_wp2_with fail
              clear n3 n4 n5 e5 b2
              go_loopw [3, 4] (fun lv iv wr => ∃ k : Nat, k ≤ x.f4.length ∧ iv = .int .i64 (k : Int) ∧ lv = .int .i64 (lastE x.f3 x.f4 k) ∧ Hid (okW x ↔ okE x.f0 (lastE x.f3 x.f4 k) (x.f4.drop k)) ∧ Hid (Below WW.heap.size WW wr)) (fun _ iv _ => x.f4.length - (intOf iv).toNat)
              case atStart => exact ⟨0, Nat.zero_le _, rfl, rfl, HOK, Below.refl _ _⟩
              case round =>
                obtain ⟨k, hk, rfl, rfl, HK, HBr⟩ := hrel
                clear d0 d1 d2 d3 d4
                obtain ⟨d0, d1, d2, d3, d4⟩ := HX.out wr HBr.out
                have HB : Hid (Below w.heap.size w wr) := HBW.out.trans (HBr.out.mono (by rw [HZ0.out]; omega))
                by_cases hlt : k < x.f4.length
                · have hlt' : (k : Int) < x.f4.length := by omega
                  obtain ⟨b, off, cap', hv, hb, hc⟩ := HR.out.some (by omega) (by decide)
                  simp only [Value.slice.injEq, true_and] at hv
                  obtain ⟨rfl, rfl⟩ := hv
                  have HC : Hid (∀ j, j < x.f4.length * 2 → w.cell? ⟨b, off + j, none⟩ = (rEntry x.f4)[j]?) := hc
                  clear hc
                  have c : ∀ q, q < 2 → wr.cell? ⟨b, off + (k * 2 + q), none⟩ = (cEntry x.f4[k])[q]? := fun q hq => by
                    rw [HB.out.cell (by exact hb), HC.out (k * 2 + q) (by omega)]
                    exact flat_at cEntry 2 cEntry_len x.f4 k q hlt hq
                  have c0 : wr.cell? ⟨b, off + k * 2, none⟩ = some (.int .i64 (x.f4[k]).f0) := by have := c 0 (by decide); rw [← Nat.add_assoc] at this; exact this
                  have c1 : wr.cell? ⟨b, off + k * 2 + 1, none⟩ = some (.string (x.f4[k]).f1) := by have := c 1 (by decide); rw [← Nat.add_assoc] at this; exact this
                  clear c
                  have HSZ : Hid (x.f4[k].f1.size ≤ 9223372036854775807) := by have := HS.out x.f4[k] (List.getElem_mem hlt); unfold sEntry maxLen at this; exact this
                  have HD : Hid (okE x.f0 (lastE x.f3 x.f4 k) (x.f4.drop k) ↔ goodE x.f0 (lastE x.f3 x.f4 k) x.f4[k] ∧ okE x.f0 (lastE x.f3 x.f4 (k + 1)) (x.f4.drop (k + 1))) := okE_drop _ _ _ _ hlt
                  have HL : Hid (lastE x.f3 x.f4 (k + 1) = x.f4[k].f0) := lastE_succ _ _ _ hlt
                  have HNW : Hid (Below WW.heap.size WW (wr.alloc (.cells #[.int .i64 x.f4[k].f0, .string x.f4[k].f1] 63))) := HBr.out.alloc HBr.out.size _
                  have HND : Hid (Below w.heap.size w (wr.alloc (.cells #[.int .i64 x.f4[k].f0, .string x.f4[k].f1] 63))) := HB.out.alloc HB.out.size _
                  have hbw : b < wr.heap.size := Nat.lt_of_lt_of_le hb HB.out.size
                  have hww : w.heap.size < wr.heap.size := by have := HBr.out.size; rw [HZ0.out] at this; omega
                  have hne : ¬ b = wr.heap.size := by omega
                  have hne' : ¬ w.heap.size = wr.heap.size := by omega
                  have hsz : (x.f4[k].f1.size : Int) ≤ 9223372036854775807 := by have := HSZ.out; omega
                  generalize x.f4[k] = X at c0 c1 HD HL HNW HND hsz
                  clear HSZ
                  obtain ⟨l, hl⟩ : ∃ l, lastE x.f3 x.f4 k = l := ⟨_, rfl⟩
                  rw [hl] at HD HK ⊢
                  by_cases g0 : X.f0 < 1
                  · have HF : Hid (¬ okW x) := fun h => by have := (HD.out.1 (HK.out.1 h)).1.1; omega
                    go_wp2
                    go_ret
                    exact ⟨ret_f HF.out, HND.out⟩
                  by_cases g1 : X.f0 < l
                  · have HF : Hid (¬ okW x) := fun h => by have := (HD.out.1 (HK.out.1 h)).1.2.1; omega
                    go_wp2
                    go_ret
                    exact ⟨ret_f HF.out, HND.out⟩
                  by_cases g2 : x.f0 < X.f0
                  · have HF : Hid (¬ okW x) := fun h => by have := (HD.out.1 (HK.out.1 h)).1.2.2.1; omega
                    go_wp2
                    go_ret
                    exact ⟨ret_f HF.out, HND.out⟩
                  by_cases g3 : (900 : Int) < (X.f1.size : Int)
                  · have HF : Hid (¬ okW x) := fun h => by have := (HD.out.1 (HK.out.1 h)).1.2.2.2; omega
                    go_wp2
                    go_ret
                    exact ⟨ret_f HF.out, HND.out⟩
                  · have HK1 : Hid (okW x ↔ okE x.f0 (lastE x.f3 x.f4 (k + 1)) (x.f4.drop (k + 1))) := ⟨fun h => (HD.out.1 (HK.out.1 h)).2, fun h => HK.out.2 (HD.out.2 ⟨⟨by omega, by omega, by omega, by omega⟩, h⟩)⟩
                    go_wp2
                    go_roundw
                    case rel => exact ⟨k + 1, by omega, by go_num, by rw [HL.out], HK1, HNW⟩
                    case measure => simp [intOf]; omega
                · have hke : k = x.f4.length := by omega
                  subst hke
                  have HT : Hid (okW x) := HK.out.2 (by rw [List.drop_length]; trivial)
                  generalize lastE x.f3 x.f4 x.f4.length = l
                  go_wp2
                  go_ret
                  exact ⟨ret_t HT.out, HB.out⟩
            · skip
              have n3 : ¬ x.f0 < x.f3 := by omega
              have n4 : ¬ (60 : Int) < (x.f4.length : Int) := by omega
              have b2 : 0 ≤ x.f2 ∧ x.f2 ≤ 100000 := by unfold bsR at h2; omega
              have n5 : (100000 : Int) < x.f2 + (x.f4.length : Int) := by omega
              have e5 : IntKind.i64.wrap (x.f2 + (x.f4.length : Int)) = x.f2 + (x.f4.length : Int) := IntWalk.i64_in _ (by omega)
              have HF : Hid (¬ okW x) := fun h => by have := h.1; unfold headW at this; omega
              go_enter Tryd.func8, Tryd.ntmps8
              go_wp2_with fail
              refine (sin_yes x.f0 0 100000 _ h0.1 h0.2).mono ?_
              rintro e _ ⟨rfl, rfl⟩
              go_wp2_with fail
              refine (sin_yes x.f1 (-1) 4 _ h1.1 h1.2).mono ?_
              rintro e _ ⟨rfl, rfl⟩
              go_wp2_with fail
              refine (based_c x.f2 x.f3 _).mono ?_
              rintro e _ ⟨rfl, rfl⟩
              rw [decide_eq_true h2]
              go_wp2
              go_ret
              exact ⟨ret_f HF.out, HB0.out⟩
          · skip
            have n3 : ¬ x.f0 < x.f3 := by omega
            have n4 : (60 : Int) < (x.f4.length : Int) := by omega
            have HF : Hid (¬ okW x) := fun h => by have := h.1; unfold headW at this; omega
            go_enter Tryd.func8, Tryd.ntmps8
            go_wp2_with fail
            refine (sin_yes x.f0 0 100000 _ h0.1 h0.2).mono ?_
            rintro e _ ⟨rfl, rfl⟩
            go_wp2_with fail
            refine (sin_yes x.f1 (-1) 4 _ h1.1 h1.2).mono ?_
            rintro e _ ⟨rfl, rfl⟩
            go_wp2_with fail
            refine (based_c x.f2 x.f3 _).mono ?_
            rintro e _ ⟨rfl, rfl⟩
            rw [decide_eq_true h2]
            go_wp2
            go_ret
            exact ⟨ret_f HF.out, HB0.out⟩
        · skip
          have n3 : x.f0 < x.f3 := by omega
          have HF : Hid (¬ okW x) := fun h => by have := h.1; unfold headW at this; omega
          go_enter Tryd.func8, Tryd.ntmps8
          go_wp2_with fail
          refine (sin_yes x.f0 0 100000 _ h0.1 h0.2).mono ?_
          rintro e _ ⟨rfl, rfl⟩
          go_wp2_with fail
          refine (sin_yes x.f1 (-1) 4 _ h1.1 h1.2).mono ?_
          rintro e _ ⟨rfl, rfl⟩
          go_wp2_with fail
          refine (based_c x.f2 x.f3 _).mono ?_
          rintro e _ ⟨rfl, rfl⟩
          rw [decide_eq_true h2]
          go_wp2
          go_ret
          exact ⟨ret_f HF.out, HB0.out⟩
      · skip
        have HF : Hid (¬ okW x) := fun h => h2 h.1.2.2.1
        go_enter Tryd.func8, Tryd.ntmps8
        go_wp2_with fail
        refine (sin_yes x.f0 0 100000 _ h0.1 h0.2).mono ?_
        rintro e _ ⟨rfl, rfl⟩
        go_wp2_with fail
        refine (sin_yes x.f1 (-1) 4 _ h1.1 h1.2).mono ?_
        rintro e _ ⟨rfl, rfl⟩
        go_wp2_with fail
        refine (based_c x.f2 x.f3 _).mono ?_
        rintro e _ ⟨rfl, rfl⟩
        rw [decide_eq_false h2]
        go_wp2
        go_ret
        exact ⟨ret_f HF.out, HB0.out⟩
    · skip
      have HF : Hid (¬ okW x) := fun h => by have := h.1; unfold headW at this; omega
      go_enter Tryd.func8, Tryd.ntmps8
      go_wp2_with fail
      refine (sin_yes x.f0 0 100000 _ h0.1 h0.2).mono ?_
      rintro e _ ⟨rfl, rfl⟩
      go_wp2_with fail
      refine (sin_no x.f1 (-1) 4 _ h1).mono ?_
      rintro e _ ⟨rfl, rfl⟩
      go_wp2
      go_ret
      exact ⟨ret_f HF.out, HB0.out⟩
  · skip
    have HF : Hid (¬ okW x) := fun h => by have := h.1; unfold headW at this; omega
    go_enter Tryd.func8, Tryd.ntmps8
    go_wp2_with fail
    refine (sin_no x.f0 0 100000 _ h0).mono ?_
    rintro e _ ⟨rfl, rfl⟩
    go_wp2
    go_ret
    exact ⟨ret_f HF.out, HB0.out⟩

end Go.Proofs.YthlokfcejojdhaaDoor
