/- strings.Clone: the same bytes (the shelf's contract, told to the reckoner). No condition. -/
import Derived.Test.YtdlhlnlkiblnbaaDoorH0
import Derived.Shelf.Pu.Clone
set_option linter.unusedVariables false
set_option maxRecDepth 100000
namespace Go.Proofs.YtdlhlnlkiblnbaaDoor
open Go Reck Ost
def cloneRen : Go.Shelf.Ren := ⟨fun _ => 23, fun t => match t with
  | 0 => 0
  | 3 => 3
  | 4 => 4
  | 5 => 5
  | 9 => 9
  | 37 => 52
  | 47 => 55
  | t => t, fun g => g⟩
theorem cloneLays : LaysPu.n25 Tryd.prog cloneRen := by
  refine ⟨?_, ?_, ?_, ?_, ?_, ?_, ?_, ?_, ?_, ?_, ?_, ?_, ?_, ?_, ?_, ?_, ?_, ?_, ?_, ?_, ?_, ?_, ?_, ?_, ?_, ?_, ?_, ?_, ?_, ?_, ?_, ?_, ?_, ?_, ?_, ?_, ?_⟩
  all_goals (first | (intro w; kernel_rfl) | kernel_rfl)
def bigStr : Nat := 281474976710656
def tClone : Tbl := fun f args σ => if f == 23 then match args with
    | [.inl (.inl (.inl (.string s)))] => if Nat.ble s.size bigStr then some fun K => K (.inl (.inl (.inl (.string s)))) σ else none
    | [.inl (.inl (.inr (.inr (.inr (.inr (.inr (.inr (.inr (.inr (.inr (.inr l)))))))))))] => some fun K => l.length ≤ 281474976710656 ∧ K (cell (strC l)) σ
    | _ => none
  else none
theorem tClone_ok : TblOk Tryd.prog tClone := by
  intro f tm σ C h K hK w0 e w hk vs hvs
  unfold tClone at h
  split at h
  · rename_i hf
    obtain rfl : f = 23 := by simpa using hf
    have go : ∀ (s : ByteArray), s.size ≤ 281474976710656 → Calls Tryd.prog 23 #[.string s] w fun en w' => en = .returned (.string s) ∧ Only (fun _ => False) w w' := by
      intro s hs
      refine (AnyPu.stringslite_Clone cloneLays s w hs).mono ?_
      rintro en w' ⟨h1, h2⟩
      exact ⟨h1, ⟨h2.os, h2.tape, h2.output, h2.size, fun k hk _ => h2.block k hk⟩⟩
    split at h
    · rename_i s
      split at h
      · rename_i hb
        simp only [Option.some.injEq] at h; subst h
        have hb : s.size ≤ 281474976710656 := by simpa [bigStr] using hb
        obtain ⟨v, rfl⟩ : ∃ v, vs = [v] := by
          match vs, map_len hvs with
          | [v], _ => exact ⟨v, rfl⟩
        simp only [List.map_cons, List.map_nil, List.cons.injEq, and_true] at hvs
        obtain rfl := av_lit hvs
        refine (go s hb).mono ?_
        rintro en w' ⟨rfl, h2⟩
        exact ⟨_, _, e, _, rfl, Env.le.refl e, hvs, hk.world h2, hK⟩
      · cases h
    · rename_i l
      simp only [Option.some.injEq] at h; subst h
      obtain ⟨v, rfl⟩ : ∃ v, vs = [v] := by
        match vs, map_len hvs with
        | [v], _ => exact ⟨v, rfl⟩
      simp only [List.map_cons, List.map_nil, List.cons.injEq, and_true] at hvs
      obtain ⟨rfl, hb⟩ := strX_ok (l := l) rfl hvs
      refine (go (strZ l) (by rw [strZ_size]; exact hK.1)).mono ?_
      rintro en w' ⟨rfl, h2⟩
      exact ⟨_, _, e, _, rfl, Env.le.refl e, hvs, hk.world h2, hK.2⟩
    · cases h
  · cases h
end Go.Proofs.YtdlhlnlkiblnbaaDoor
