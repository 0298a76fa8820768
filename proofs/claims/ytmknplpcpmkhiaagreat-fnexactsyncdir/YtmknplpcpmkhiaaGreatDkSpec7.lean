/- The specification's move that is applied, whatever it is; and the names behind moves, by their contracts. -/
import Derived.Test.YtmknplpcpmkhiaaGreatDkSpec6
namespace Go.Proofs.YtmknplpcpmkhiaaGreat
open Go.RowKit
set_option linter.unusedVariables false

theorem ap_c (v : Value) (L : List S_Link) (m : S_Move) (w : World) (hn : L.length ≤ 1048576) (hs : sMove m) (hr : RowR w v L.length 2 (rLink L)) :
    Calls Tryz.prog 65 #[v, .agg #[.int .i64 m.f0, .string m.f1, .string m.f2, .int .i64 m.f3]] w (ApR L m w) := by
  by_cases h1 : nameB m.f1 = true
  · by_cases k1 : m.f0 = 1
    · by_cases k2 : m.f2.size = 0
      · by_cases ka : at4 L m.f1 < 0
        · exact ap_make v L m w hn hs hr h1 k1 k2 ka
        · exact ap_f1_at v L m w hn hs hr h1 k1 k2 ka
      · exact ap_f1_to v L m w hn hs hr h1 k1 k2
    · by_cases k2 : m.f0 = 2
      · by_cases k3 : m.f3 = 0
        · by_cases ka : at4 L m.f1 < 0
          · exact ap_f2_at v L m w hn hs hr h1 k2 k3 ka
          · by_cases kn : nameB m.f2 = true
            · by_cases ks : m.f2 = m.f1
              · exact ap_f2_same v L m w hn hs hr h1 k2 k3 ka kn ks
              · exact ap_rename v L m w hn hs hr h1 k2 k3 ka kn ks
            · exact ap_f2_name v L m w hn hs hr h1 k2 k3 ka (by simpa using kn)
        · exact ap_f2_id v L m w hn hs hr h1 k2 k3
      · by_cases k3 : m.f0 = 3
        · by_cases q3 : m.f3 = 0
          · by_cases q2 : m.f2.size = 0
            · by_cases ka : at4 L m.f1 < 0
              · exact ap_f3_at v L m w hn hs hr h1 k3 q3 q2 ka
              · exact ap_drop v L m w hn hs hr h1 k3 q3 q2 ka
            · exact ap_f3_to v L m w hn hs hr h1 k3 q3 q2
          · exact ap_f3_id v L m w hn hs hr h1 k3 q3
        · exact ap_other v L m w hn hs hr h1 k1 k2 k3
  · exact ap_bad v L m w hn hs hr (by simpa using h1)

theorem wi_len (x : S_Link) (L : List S_Link) : (wi x L).length ≤ L.length + 1 := by
  unfold wi
  rw [insF_len]
  have := wo_len x.f0 L
  omega

theorem ap_len (L : List S_Link) (m : S_Move) : (ap L m).1.length ≤ L.length + 1 := by
  unfold ap
  split
  · simp
  · split
    · exact wi_len _ _
    · split
      · have h1 := wi_len ⟨m.f2, (L[(at4 L m.f1).toNat]?.map (·.f1)).getD 0⟩ (wo m.f1 L)
        have h2 := wo_len m.f1 L
        simp only at h1 ⊢
        omega
      · split
        · have := wo_len m.f1 L
          simp only
          omega
        · simp

/-- The links behind moves. -/
def nms (L : List S_Link) (ms : List S_Move) : List S_Link := ms.foldl (fun l m => (ap l m).1) L

theorem nms_len (L : List S_Link) : ∀ ms : List S_Move, (nms L ms).length ≤ L.length + ms.length := by
  intro ms
  induction ms generalizing L with
  | nil => simp [nms]
  | cons m ms ih =>
    have h1 := ih (ap L m).1
    have h2 := ap_len L m
    show (nms (ap L m).1 ms).length ≤ _
    simp only [List.length_cons]
    omega

theorem nms_take (L : List S_Link) (ms : List S_Move) (k : Nat) (h : k < ms.length) : nms L (ms.take (k + 1)) = (ap (nms L (ms.take k)) ms[k]).1 := by
  have e : ms.take (k + 1) = ms.take k ++ [ms[k]] := by rw [List.take_add_one, List.getElem?_eq_getElem h]; rfl
  unfold nms
  rw [e, List.foldl_append]
  rfl

end Go.Proofs.YtmknplpcpmkhiaaGreat
