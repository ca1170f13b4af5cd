/-
  Conversions of complex numbers, whatever their parts are.
  Own work; imports nothing of the program.
-/
import Derived.Test.YtbdmmpkphiilkaaFl
import Derived.Laws.ComplexArith
namespace Go.Proofs.Ytbdmmpkphiilkaa
namespace Fl

section
variable {P : Program} (w : World)
theorem run_f2f_any (s k : FloatKind) (hne : s ≠ k) (b : Nat) (hw : s = .f32 ∨ k = .f32) :
    ∃ r n, (Conv.floatToFloat s b k).run P w = .ok (.float k r) (w.drewN n) ∧ FCv s k b r ∧ r < 2 ^ k.format.width := by
  cases hb : floatToFloatBits s b k with
  | some q =>
    have hlt : q < 2 ^ k.format.width := by
      unfold floatToFloatBits at hb
      rw [if_neg hne] at hb
      split at hb
      · cases hb
      · cases hb; exact k.format.write_lt _
      · split at hb
        · cases hb
        · cases hb; exact k.format.write_lt _
    refine ⟨q, 0, run_floatToFloat w hb, ?_, hlt⟩
    unfold FCv; rw [hb]
  | none =>
    unfold floatToFloatBits at hb
    rw [if_neg hne] at hb
    split at hb
    · rename_i hx
      refine ⟨(Question.nanConv k b).cut (w.tape w.drawn (.nanConv k b)), 1, ?_, ?_, cut_conv_lt ..⟩
      · simp [Conv.floatToFloat, hne, hx, Question.forced, World.drewN]
      · unfold FCv; split
        · rename_i q hq; unfold floatToFloatBits at hq; rw [if_neg hne, hx] at hq; cases hq
        · exact fun _ => nan_conv_cut ..
    · cases hb
    · rename_i sg m e hx
      split at hb
      · rename_i ho
        have hlt : (Question.floatToFloat b).cut (w.tape w.drawn (.floatToFloat b)) < 4294967296 := by
          unfold Question.cut; exact Nat.mod_lt _ (by omega)
        refine ⟨(Question.floatToFloat b).cut (w.tape w.drawn (.floatToFloat b)), 1, ?_, ?_, ?_⟩
        · simp [Conv.floatToFloat, hne, hx, ho, Question.forced, World.drewN]
        · unfold FCv; split
          · rename_i q hq; unfold floatToFloatBits at hq; rw [if_neg hne, hx] at hq; simp [ho] at hq
          · intro hn; unfold isNan at hn; rw [hx] at hn; simp [Ieee.Datum.isNaN] at hn
        · cases k
          · exact hlt
          · have e : (2 : Nat) ^ FloatKind.f64.format.width = 18446744073709551616 := by decide
            rw [e]; omega
      · cases hb

theorem run_cconv_any (src dst : TypeId) (s k : FloatKind) (hne : s ≠ k) (a b : Nat) (hs : (P.underlying src).isSome = true) (hd : P.underlying dst = some (.complex k)) (hw : s = .f32 ∨ k = .f32) :
    ∃ re im n, (convert src dst (.complex s a b)).run P w = .ok (.complex k re im) (w.drewN n) ∧ FCv s k a re ∧ FCv s k b im ∧ re < 2 ^ k.format.width ∧ im < 2 ^ k.format.width := by
  obtain ⟨u, hs'⟩ := Option.isSome_iff_exists.1 hs
  obtain ⟨re, n, h1, h2, h3⟩ := run_f2f_any (P := P) w s k hne a hw
  obtain ⟨im, m, g1, g2, g3⟩ := run_f2f_any (P := P) (w.drewN n) s k hne b hw
  refine ⟨re, im, n + m, ?_, h2, g2, h3, g3⟩
  have e : (w.drewN n).drewN m = w.drewN (n + m) := by simp [World.drewN, Nat.add_assoc]
  rw [e] at g1
  cases u <;> simp [convert, run_underlying hs', run_underlying hd, Conv.complexToComplex, h1, g1]
end

theorem wpList_cconv {P : Program} {ops : Array Oper} {rest : List Oper} {o : Oper} {a : Act} {w : World} {Q : Exit → Act → World → Prop} (hg : o.guard = none) (src dst : TypeId) (x : Operand)
    (ho : o.op = .convert src dst x) (s k : FloatKind) (hne : s ≠ k) (hw : s = .f32 ∨ k = .f32) (b c : Nat) (hx : a.eval x = .complex s b c) (hs : (P.underlying src).isSome = true) (hd : P.underlying dst = some (.complex k))
    (h : ∀ re im n, FCv s k b re → FCv s k c im → re < 2 ^ k.format.width → im < 2 ^ k.format.width → wpList P ops Q rest (a.put o.dst (.complex k re im)) (w.drewN n)) : wpList P ops Q (o :: rest) a w := by
  refine wpList_plain hg fun K hK => ?_
  obtain ⟨re, im, n, hr, h1, h2, h3, h4⟩ := run_cconv_any (P := P) w src dst s k hne b c hs hd hw
  unfold Oper.wp execOp
  simp only [ho, hx, Sem.run_bind, Result.andThen_ok, hr, Sem.run_pure]
  exact hK _ _ (h re im n h1 h2 h3 h4)

end Fl
end Go.Proofs.Ytbdmmpkphiilkaa
